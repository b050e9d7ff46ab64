/-
  jsonx: the bounds of the document's machine, kept by a byte.; jsonx: the document's machine: put.; jsonx: the document's machine: part.; jsonx: the document's machine: within.; jsonx: the document's machine: escaped, digitOf.; jsonx: the document's machine: digitOf.
-/
import Derived.Test.YtbnbngmnoffmkaaGreatDoorPkJsesbk
import Derived.Test.YtbnbngmnoffmkaaGreatDoorPkJsesbi
import Derived.Deep.RegionHeld3
import Derived.Deep.CutRange
import Derived.Deep.DeepCutAuto
section
set_option linter.unusedVariables false
set_option maxRecDepth 1000000
namespace Go.Proofs.YtbnbngmnoffmkaaGreatDoor
open Go.RowKit

/-- Bounds, with one more: what of a character is there beside the text. -/
structure Iw (N : Nat) (m : Mc) : Prop extends Iv N m where
 sum : m.st = 15 → m.text.length + m.char.length ≤ N
 obj : m.st = 2 ∨ m.st = 3 → m.l ≠ []
theorem Iv.le {N M : Nat} {m : Mc} (h : Iv N m) (hl : N ≤ M) : Iv M m :=
 { h with tx := Nat.le_trans h.tx hl, ch := Nat.le_trans h.ch hl, ns := fun o ho => ⟨Nat.le_trans (h.ns o ho).1 hl, Nat.le_trans (h.ns o ho).2.1 hl, (h.ns o ho).2.2⟩ }
theorem Iw.le {N M : Nat} {m : Mc} (h : Iw N m) (hl : N ≤ M) : Iw M m := ⟨h.toIv.le hl, fun e => Nat.le_trans (h.sum e) hl, h.obj⟩
theorem iw0 : Iw 0 mc0 := by
 refine ⟨⟨?_, ?_, ?_, ?_, ?_, ?_, ?_, ?_, ?_, ?_, ?_, ?_, ?_, ?_⟩, ?_, ?_⟩ <;> simp [mc0]
theorem Iv.up {N : Nat} {m : Mc} (h : Iv N m) : (∀ o ∈ m.l, o.ns.length ≤ N + 4 ∧ o.is.length ≤ N + 4 ∧ (o.k = 4 ∨ o.k = 5)) ∧ m.text.length ≤ N + 4 ∧ m.char.length ≤ N + 4 :=
 ⟨fun o ho => by have := h.ns o ho; omega, by have := h.tx; omega, by have := h.ch; omega⟩
/-- Behind a value. -/
theorem iw_done {N : Nat} {m : Mc} {v : Js} (h : Iv N m) : Iw (N + 1) (doneM m v) := by
 have hb := doneM_bd (v := v) (fun o ho => ⟨(h.ns o ho).1, (h.ns o ho).2.1⟩)
 have hk : ∀ o ∈ (doneM m v).l, o.k = 4 ∨ o.k = 5 := by
  unfold doneM
  by_cases hl : m.l = []
  ·rw [if_pos hl]
   exact fun o ho => (h.ns o ho).2.2
  ·rw [if_neg hl]
   obtain ⟨l0, o, hlo⟩ : ∃ l0 o, m.l = l0 ++ [o] := ⟨m.l.dropLast, m.l.getLast hl, (List.dropLast_concat_getLast hl).symm⟩
   intro q hq
   have hq' : q ∈ upd (addV v) m.l := hq
   rw [hlo, upd_last] at hq'
   rcases List.mem_append.1 hq' with k | k
   ·exact (h.ns q (by rw [hlo]; exact List.mem_append_left _ k)).2.2
   ·have hqo : q = addV v o := by simpa using k
    rw [hqo]
    exact (h.ns o (by rw [hlo]; simp)).2.2
 have hs : (doneM m v).st = 5 := by unfold doneM; split <;> rfl
 have e : (doneM m v).text = m.text ∧ (doneM m v).char = m.char ∧ (doneM m v).n = m.n ∧ (doneM m v).many = m.many ∧ (doneM m v).high = m.high ∧ (doneM m v).neg = m.neg ∧ (doneM m v).num = m.num := by
  unfold doneM; split <;> exact ⟨rfl, rfl, rfl, rfl, rfl, rfl, rfl⟩
 obtain ⟨e1, e2, e3, e4, e5, e6, e7⟩ := e
 have := h.tx
 have := h.ch
 refine ⟨⟨by omega, by rw [hb.2]; exact h.l16, by rw [e1]; omega, by rw [e2]; omega, fun o ho => ⟨(hb.1 o ho).1, (hb.1 o ho).2, hk o ho⟩, by rw [e3]; exact h.n, by rw [e4]; exact h.many, fun q => by omega, by rw [e5]; exact h.high, fun q => by omega, by rw [e6, e7]; exact h.num, fun q => by omega, fun q => by omega, fun q => by omega⟩, fun q => by omega, fun q => by omega⟩
theorem iw_ends {N : Nat} {m m' : Mc} {c : UInt8} (h : Iw N m) (hs : m.st ≤ 3 ∨ m.st = 5) (h4 : endsM m c = (0, m')) : Iw (N + 1) m' := by
 have hns : ∀ o ∈ m.l, o.ns.length ≤ N + 1 ∧ o.is.length ≤ N + 1 ∧ (o.k = 4 ∨ o.k = 5) := fun o ho => by have := h.ns o ho; omega
 have ht : m.text.length ≤ N + 1 := by have := h.tx; omega
 have hc : m.char.length ≤ N + 1 := by have := h.ch; omega
 unfold endsM at h4
 by_cases hb : blB4 c = true
 ·rw [if_pos hb] at h4
  obtain rfl := (Prod.mk.inj h4).2
  exact h.le (by omega)
 rw [if_neg hb] at h4
 by_cases hl : m.l = []
 ·rw [if_pos hl] at h4; exact absurd (Prod.mk.inj h4).1 (by decide)
 rw [if_neg hl] at h4
 dsimp only at h4
 by_cases h1 : c = 44 ∧ (topO m.l).k = 4
 ·rw [if_pos h1] at h4
  obtain rfl := (Prod.mk.inj h4).2
  clear h4
  have h4 := h.l16
  refine ⟨⟨?_, ?_, ?_, ?_, ?_, ?_, ?_, ?_, ?_, ?_, ?_, ?_, ?_, ?_⟩, ?_, ?_⟩ <;> first | exact h.l16 | exact hns | exact h.n | exact h.many | exact h.high | exact h.num | exact h4 | exact ht | exact hc | exact Nat.zero_le _ | (show (_ : Nat) ≤ 15; simp; done) | (intro e; simp at e; done) | skip
 rw [if_neg h1] at h4
 by_cases h2 : c = 44
 ·rw [if_pos h2] at h4
  obtain rfl := (Prod.mk.inj h4).2
  clear h4
  have h4 := h.l16
  refine ⟨⟨?_, ?_, ?_, ?_, ?_, ?_, ?_, ?_, ?_, ?_, ?_, ?_, ?_, ?_⟩, ?_, ?_⟩ <;> first | exact h.l16 | exact hns | exact h.n | exact h.many | exact h.high | exact h.num | exact h4 | exact ht | exact hc | exact Nat.zero_le _ | (show (_ : Nat) ≤ 15; simp; done) | (intro e; simp at e; done) | skip
  exact fun _ => hl
 rw [if_neg h2] at h4
 split at h4
 ·obtain rfl := (Prod.mk.inj h4).2
  refine iw_done ?_
  have hd : ∀ o, o ∈ m.l.dropLast → o ∈ m.l := fun o ho => List.dropLast_subset _ ho
  refine { h.toIv with l16 := ?_, ns := fun o ho => h.ns o (hd o ho), key := fun q => ?_, four := fun q => ?_ }
  ·show m.l.dropLast.length ≤ 16
   have := h.l16
   rw [List.length_dropLast]; omega
  ·have q' : (m.st = 9 ∨ m.st = 10 ∨ m.st = 11 ∨ m.st = 12 ∨ m.st = 13 ∨ m.st = 15) := q
   omega
  ·have q' : m.st = 4 := q
   omega
 ·exact absurd (Prod.mk.inj h4).1 (by decide)
theorem iw_digit {N : Nat} {m m' : Mc} {c : UInt8} (h : Iv N m) (hd : dgB4 c = true) (h4 : digitM m c = (0, m')) : Iw (N + 4) m' := by
 obtain ⟨d1, d2⟩ := dg_val hd
 have hz := h.num
 obtain ⟨hns, ht, hc⟩ := h.up
 unfold digitM at h4
 dsimp only at h4
 have hst : (if m.st ≠ 7 ∧ ((c.toNat : Int) - 48) = 0 then 14 else 7) = 14 ∨ (if m.st ≠ 7 ∧ ((c.toNat : Int) - 48) = 0 then 14 else 7) = (7 : Nat) := by split <;> simp
 generalize (if m.st ≠ 7 ∧ ((c.toNat : Int) - 48) = 0 then 14 else 7) = s at h4 hst
 have k : ∀ (b : Bool) (x : Int), ((b = true → -9223372036854775808 ≤ x ∧ x ≤ 0) ∧ (b = false → 0 ≤ x ∧ x ≤ 9223372036854775807)) → Iw (N + 4) { m with neg := b, num := x, st := s } := fun b x hx => by
  refine ⟨⟨?_, h.l16, ht, hc, hns, h.n, h.many, fun q => ?_, h.high, fun q => ?_, hx, fun q => ?_, fun q => ?_, fun q => ?_⟩, fun q => ?_, fun q => ?_⟩
  ·show s ≤ 15
   omega
  all_goals (dsimp only at q; omega)
 cases hb : m.neg with
 | true =>
  rw [hb, if_pos rfl] at h4
  split at h4
  ·exact absurd (Prod.mk.inj h4).1 (by decide)
  ·rename_i hf
   obtain rfl := (Prod.mk.inj h4).2
   have := k true (m.num * 10 - ((c.toNat : Int) - 48)) ⟨fun _ => by have := hz.1 hb; omega, fun e => by cases e⟩
   exact this
 | false =>
  rw [hb, if_neg (by decide)] at h4
  split at h4
  ·exact absurd (Prod.mk.inj h4).1 (by decide)
  ·rename_i hf
   obtain rfl := (Prod.mk.inj h4).2
   have := k false (m.num * 10 + ((c.toNat : Int) - 48)) ⟨fun e => (by cases e), fun _ => by have := hz.2 hb; omega⟩
   exact this
theorem en_le (n : Nat) : (enB n).length ≤ 4 := by
 unfold enB
 (repeat' split) <;> simp
theorem iw_put {N : Nat} {m : Mc} {n : Nat} (h : Iv N m) (hk : m.isKey = true → m.l ≠ []) : Iw (N + 4) (putM m n) := by
 obtain ⟨hns, ht, hc⟩ := h.up
 unfold putM
 have h4 : (m.text ++ enB n).length ≤ N + 4 := by have := h.tx; have := en_le n; rw [List.length_append]; omega
 refine ⟨⟨?_, ?_, ?_, ?_, ?_, ?_, ?_, ?_, ?_, ?_, ?_, ?_, ?_, ?_⟩, ?_, ?_⟩ <;> first | exact h.l16 | exact hns | exact h.n | exact h.many | exact h.high | exact h.num | exact h4 | exact ht | exact hc | exact Nat.zero_le _ | (show (_ : Nat) ≤ 15; simp; done) | (intro e; simp at e; done) | skip
 exact fun _ => hk
theorem iw_part {N : Nat} {m m' : Mc} {c : UInt8} (h : Iv N m) (hs : m.text.length + m.char.length ≤ N) (hk : m.isKey = true → m.l ≠ []) (h4 : partM m c = (0, m')) : Iw (N + 4) m' := by
 obtain ⟨hns, ht, hc⟩ := h.up
 unfold partM at h4
 dsimp only at h4
 split at h4
 ·obtain rfl := (Prod.mk.inj h4).2
  clear h4
  have h4 : (m.text ++ (m.char ++ [c])).length ≤ N + 4 := by simp; omega
  refine ⟨⟨?_, ?_, ?_, ?_, ?_, ?_, ?_, ?_, ?_, ?_, ?_, ?_, ?_, ?_⟩, ?_, ?_⟩ <;> first | exact h.l16 | exact hns | exact h.n | exact h.many | exact h.high | exact h.num | exact h4 | exact ht | exact hc | exact Nat.zero_le _ | (show (_ : Nat) ≤ 15; simp; done) | (intro e; simp at e; done) | skip
  exact fun _ => hk
 ·split at h4
  ·exact absurd (Prod.mk.inj h4).1 (by decide)
  ·obtain rfl := (Prod.mk.inj h4).2
   clear h4
   have h4 : (m.char ++ [c]).length ≤ N + 4 := by simp; omega
   refine ⟨⟨?_, ?_, ?_, ?_, ?_, ?_, ?_, ?_, ?_, ?_, ?_, ?_, ?_, ?_⟩, ?_, ?_⟩ <;> first | exact h.l16 | exact hns | exact h.n | exact h.many | exact h.high | exact h.num | exact h4 | exact ht | exact hc | exact Nat.zero_le _ | (show (_ : Nat) ≤ 15; simp; done) | (intro e; simp at e; done) | skip
   ·exact fun _ => hk
   ·intro _
    show m.text.length + (m.char ++ [c]).length ≤ N + 4
    simp; omega
theorem iw_begins {N : Nat} {m m' : Mc} {c : UInt8} (h : Iv N m) (h4 : beginsM m c = (0, m')) : Iw (N + 4) m' := by
 obtain ⟨hns, ht, hc⟩ := h.up
 unfold beginsM at h4
 split at h4
 ·split at h4
  ·exact absurd (Prod.mk.inj h4).1 (by decide)
  ·rename_i hl
   have hl' : m.l.length < 16 := by omega
   have key : ∀ (k : Int) (s : Nat), (k = 4 ∨ k = 5) → (s = 1 ∨ s = 3) → Iw (N + 4) { m with l := m.l ++ [⟨k, [], [], []⟩], st := s } := fun k s hk hs => by
    refine ⟨⟨?_, ?_, ht, hc, fun o ho => ?_, h.n, h.many, fun q => ?_, h.high, fun q => ?_, h.num, fun q => ?_, fun q => ?_, fun q => ?_⟩, fun q => ?_, fun _ => by simp⟩
    ·show s ≤ 15
     omega
    ·show (m.l ++ [_]).length ≤ 16
     rw [List.length_append]; simp; omega
    ·rcases List.mem_append.1 ho with e | e
     ·exact hns o e
     ·have : o = ⟨k, [], [], []⟩ := by simpa using e
      rw [this]
      exact ⟨Nat.zero_le _, Nat.zero_le _, hk⟩
    all_goals (dsimp only at q; omega)
   split at h4
   ·obtain rfl := (Prod.mk.inj h4).2
    exact key 4 1 (.inl rfl) (.inl rfl)
   ·obtain rfl := (Prod.mk.inj h4).2
    exact key 5 3 (.inr rfl) (.inr rfl)
 split at h4
 ·obtain rfl := (Prod.mk.inj h4).2
  clear h4
  have h4 : ([] : List UInt8).length ≤ N + 4 := Nat.zero_le _
  refine ⟨⟨?_, ?_, ?_, ?_, ?_, ?_, ?_, ?_, ?_, ?_, ?_, ?_, ?_, ?_⟩, ?_, ?_⟩ <;> first | exact h.l16 | exact hns | exact h.n | exact h.many | exact h.high | exact h.num | exact h4 | exact ht | exact hc | exact Nat.zero_le _ | (show (_ : Nat) ≤ 15; simp; done) | (intro e; simp at e; done) | skip
  exact fun _ e => by cases e
 split at h4
 ·obtain rfl := (Prod.mk.inj h4).2
  clear h4
  have h4 := h.l16
  refine ⟨⟨?_, ?_, ?_, ?_, ?_, ?_, ?_, ?_, ?_, ?_, ?_, ?_, ?_, ?_⟩, ?_, ?_⟩ <;> first | exact h.l16 | exact hns | exact h.n | exact h.many | exact h.high | exact h.num | exact h4 | exact ht | exact hc | exact Nat.zero_le _ | (show (_ : Nat) ≤ 15; simp; done) | (intro e; simp at e; done) | skip
  exact fun _ => by simp
 split at h4
 ·obtain rfl := (Prod.mk.inj h4).2
  clear h4
  have h4 := h.l16
  refine ⟨⟨?_, ?_, ?_, ?_, ?_, ?_, ?_, ?_, ?_, ?_, ?_, ?_, ?_, ?_⟩, ?_, ?_⟩ <;> first | exact h.l16 | exact hns | exact h.n | exact h.many | exact h.high | exact h.num | exact h4 | exact ht | exact hc | exact Nat.zero_le _ | (show (_ : Nat) ≤ 15; simp; done) | (intro e; simp at e; done) | skip
  exact fun _ => by simp
 split at h4
 ·obtain rfl := (Prod.mk.inj h4).2
  clear h4
  have h4 := h.l16
  refine ⟨⟨?_, ?_, ?_, ?_, ?_, ?_, ?_, ?_, ?_, ?_, ?_, ?_, ?_, ?_⟩, ?_, ?_⟩ <;> first | exact h.l16 | exact hns | exact h.n | exact h.many | exact h.high | exact h.num | exact h4 | exact ht | exact hc | exact Nat.zero_le _ | (show (_ : Nat) ≤ 15; simp; done) | (intro e; simp at e; done) | skip
  exact fun _ => by simp
 split at h4
 ·obtain rfl := (Prod.mk.inj h4).2
  clear h4
  have h4 : ((true = true → -9223372036854775808 ≤ (0 : Int) ∧ (0 : Int) ≤ 0) ∧ (true = false → 0 ≤ (0 : Int) ∧ (0 : Int) ≤ 9223372036854775807)) := ⟨fun _ => by omega, fun e => by cases e⟩
  refine ⟨⟨?_, ?_, ?_, ?_, ?_, ?_, ?_, ?_, ?_, ?_, ?_, ?_, ?_, ?_⟩, ?_, ?_⟩ <;> first | exact h.l16 | exact hns | exact h.n | exact h.many | exact h.high | exact h.num | exact h4 | exact ht | exact hc | exact Nat.zero_le _ | (show (_ : Nat) ≤ 15; simp; done) | (intro e; simp at e; done) | skip
 split at h4
 ·rename_i hd
  refine iw_digit (m := { m with neg := false, num := 0 }) ?_ hd h4
  exact { h with num := ⟨fun e => (by cases e), fun _ => ⟨by show (0 : Int) ≤ 0; omega, by show (0 : Int) ≤ 9223372036854775807; omega⟩⟩ }
 ·exact absurd (Prod.mk.inj h4).1 (by decide)
theorem iw_within {N : Nat} {m m' : Mc} {c : UInt8} (h : Iv N m) (hs : m.st = 9) (h4 : withinM m c = (0, m')) : Iw (N + 4) m' := by
 obtain ⟨hns, ht, hc⟩ := h.up
 have hk : m.isKey = true → m.l ≠ [] := h.key (.inl hs)
 unfold withinM at h4
 split at h4
 ·split at h4
  ·obtain rfl := (Prod.mk.inj h4).2
   exact (iw_done h).le (by omega)
  ·rename_i hky
   have hl : m.l ≠ [] := hk (by simpa using hky)
   split at h4
   ·exact absurd (Prod.mk.inj h4).1 (by decide)
   ·obtain rfl := (Prod.mk.inj h4).2
    obtain ⟨l0, o, hlo⟩ : ∃ l0 o, m.l = l0 ++ [o] := ⟨m.l.dropLast, m.l.getLast hl, (List.dropLast_concat_getLast hl).symm⟩
    clear h4
    have e : upd (fun o => { o with nm := m.text }) m.l = l0 ++ [{ o with nm := m.text }] := by rw [hlo, upd_last]
    rw [e]
    have hl16 : (l0 ++ [{ o with nm := m.text }]).length ≤ 16 := by have := h.l16; rw [hlo] at this; simpa using this
    have h4 : ∀ q ∈ l0 ++ [{ o with nm := m.text }], q.ns.length ≤ N + 4 ∧ q.is.length ≤ N + 4 ∧ (q.k = 4 ∨ q.k = 5) := fun q hq => by
     rcases List.mem_append.1 hq with e | e
     ·exact hns q (by rw [hlo]; exact List.mem_append_left _ e)
     ·have : q = { o with nm := m.text } := by simpa using e
      rw [this]
      exact hns o (by rw [hlo]; simp)
    refine ⟨⟨?_, ?_, ?_, ?_, ?_, ?_, ?_, ?_, ?_, ?_, ?_, ?_, ?_, ?_⟩, ?_, ?_⟩ <;> first | exact h.l16 | exact hns | exact h.n | exact h.many | exact h.high | exact h.num | exact h4 | exact ht | exact hc | exact Nat.zero_le _ | (show (_ : Nat) ≤ 15; simp; done) | (intro e; simp at e; done) | skip
    ·exact hl16
    ·exact fun _ => by simp
 split at h4
 ·exact absurd (Prod.mk.inj h4).1 (by decide)
 split at h4
 ·obtain rfl := (Prod.mk.inj h4).2
  clear h4
  have h4 := h.l16
  refine ⟨⟨?_, ?_, ?_, ?_, ?_, ?_, ?_, ?_, ?_, ?_, ?_, ?_, ?_, ?_⟩, ?_, ?_⟩ <;> first | exact h.l16 | exact hns | exact h.n | exact h.many | exact h.high | exact h.num | exact h4 | exact ht | exact hc | exact Nat.zero_le _ | (show (_ : Nat) ≤ 15; simp; done) | (intro e; simp at e; done) | skip
  exact fun _ => hk
 split at h4
 ·obtain rfl := (Prod.mk.inj h4).2
  exact ⟨{ h with tx := by show (m.text ++ [c]).length ≤ N + 4; have := h.tx; simp; omega, ch := hc, ns := hns }, fun e => by have e' : m.st = 15 := e; omega, fun e => by have e' : m.st = 2 ∨ m.st = 3 := e; omega⟩
 ·refine iw_part (m := { m with char := [] }) { h with ch := Nat.zero_le _ } ?_ hk h4
  have := h.tx
  simpa using this
theorem iw_figure {N : Nat} {m m' : Mc} {c : UInt8} (h : Iv N m) (h4 : figureM m c = (0, m')) : Iw (N + 4) m' := by
 unfold figureM at h4
 split at h4
 ·split at h4
  ·rename_i hd
   exact iw_digit h hd h4
  ·exact absurd (Prod.mk.inj h4).1 (by decide)
 split at h4
 ·rename_i hd
  exact iw_digit h hd.1 h4
 split at h4
 ·exact absurd (Prod.mk.inj h4).1 (by decide)
 ·exact (iw_ends (iw_done h) (.inr (by unfold doneM; split <;> rfl)) h4).le (by omega)
theorem iw_escaped {N : Nat} {m m' : Mc} {c : UInt8} (h : Iv N m) (hs : m.st = 10) (h4 : escapedM m c = (0, m')) : Iw (N + 4) m' := by
 obtain ⟨hns, ht, hc⟩ := h.up
 have hk : m.isKey = true → m.l ≠ [] := h.key (.inr (.inl hs))
 unfold escapedM at h4
 split at h4
 ·obtain rfl := (Prod.mk.inj h4).2
  exact iw_put h hk
 ·split at h4
  ·obtain rfl := (Prod.mk.inj h4).2
   clear h4
   have h4 := h.l16
   refine ⟨⟨?_, ?_, ?_, ?_, ?_, ?_, ?_, ?_, ?_, ?_, ?_, ?_, ?_, ?_⟩, ?_, ?_⟩ <;> first | exact h.l16 | exact hns | exact h.n | exact h.many | exact h.high | exact h.num | exact h4 | exact ht | exact hc | exact Nat.zero_le _ | (show (_ : Nat) ≤ 15; simp; done) | (intro e; simp at e; done) | skip
   ·exact fun _ => ⟨by show 0 ≤ 3; omega, by show 0 < 16 ^ 0; decide⟩
   ·exact .inl rfl
   ·exact fun _ => ⟨fun _ => rfl, fun (e : (0 : Nat) = 1) => absurd e (by decide), fun (e : (0 : Nat) = 2) => absurd e (by decide), fun (e : (0 : Nat) = 3) => absurd e (by decide)⟩
   ·exact fun _ => hk
  ·exact absurd (Prod.mk.inj h4).1 (by decide)
theorem iw_hex {N : Nat} {m m' : Mc} {c : UInt8} (h : Iv N m) (hs : m.st = 11) (h4 : digitOfM m c = (0, m')) : Iw (N + 4) m' := by
 obtain ⟨hns, ht, hc⟩ := h.up
 have hk : m.isKey = true → m.l ≠ [] := h.key (.inr (.inr (.inl hs)))
 obtain ⟨hm3, hn⟩ := h.hex hs
 have hI := h.hxi hs
 unfold digitOfM at h4
 cases hx : hxB c with
 | none => rw [hx] at h4; exact absurd (Prod.mk.inj h4).1 (by decide)
 | some x =>
  have hxl := hxB_lt c x hx
  rw [hx] at h4
  dsimp only at h4
  split at h4
  ·exact absurd (Prod.mk.inj h4).1 (by decide)
  rename_i hok
  obtain ⟨k, hk4⟩ : ∃ k, m.many + (k + 1) = 4 := ⟨3 - m.many, by omega⟩
  obtain ⟨f1, f2⟩ := fit_iff m.high m.many m.n x k hI hxl hk4
  have hnx : 16 * m.n + x < 16 ^ (m.many + 1) := by rw [Nat.pow_succ]; omega
  have hn' : 16 * m.n + x ≤ 65535 := by
   have : 16 ^ (m.many + 1) ≤ 16 ^ 4 := Nat.pow_le_pow_right (by decide) (by omega)
   have : (16 : Nat) ^ 4 = 65536 := by decide
   omega
  have base : ∀ (s : Nat) (hh : Nat), (hh = 0 ∨ (55296 ≤ hh ∧ hh ≤ 56319)) → (s = 12 ∨ s = 9 ∨ (s = 11 ∧ hh = m.high ∧ m.many < 3)) → Iv N { m with n := 16 * m.n + x, many := m.many + 1, high := hh, st := s } := fun s hh hhi hss => by
   refine ⟨?_, h.l16, h.tx, h.ch, h.ns, hn', ?_, fun q => ?_, hhi, fun q => ?_, h.num, fun q => ?_, fun _ => hk, fun q => ?_⟩
   ·show s ≤ 15
    omega
   ·show m.many + 1 ≤ 4
    omega
   ·have q' : s = 11 := q
    rcases hss with e | e | ⟨e, e2, e3⟩
    ·omega
    ·omega
    ·exact ⟨by show m.many + 1 ≤ 3; omega, hnx⟩
   ·have q' : s = 11 := q
    rcases hss with e | e | ⟨e, e2, e3⟩
    ·omega
    ·omega
    ·show HxI hh (m.many + 1) (16 * m.n + x)
     rw [e2]
     exact f2 (f1.2 hok) e3
   ·have q' : s = 6 := q
    omega
   ·have q' : s = 4 := q
    omega
  split at h4
  ·rename_i hlt
   obtain rfl := (Prod.mk.inj h4).2
   have := base m.st m.high h.high (.inr (.inr ⟨hs, rfl, by omega⟩))
   exact ⟨this.le (by omega), fun e => by have e' : m.st = 15 := e; omega, fun e => by have e' : m.st = 2 ∨ m.st = 3 := e; omega⟩
  split at h4
  ·obtain rfl := (Prod.mk.inj h4).2
   have := iw_put (n := 65536 + (m.high - 55296) * 1024 + (16 * m.n + x) - 56320) (base 9 0 (.inl rfl) (.inr (.inl rfl))) hk
   exact this
  split at h4
  ·rename_i hr
   obtain rfl := (Prod.mk.inj h4).2
   have := base 12 (16 * m.n + x) (.inr ⟨hr.1, by omega⟩) (.inl rfl)
   exact ⟨this.le (by omega), fun e => absurd e (by show ¬ ((12 : Nat) = 15); decide), fun e => absurd e (by show ¬ ((12 : Nat) = 2 ∨ (12 : Nat) = 3); decide)⟩
  ·obtain rfl := (Prod.mk.inj h4).2
   have := iw_put (n := 16 * m.n + x) (base 9 m.high h.high (.inr (.inl rfl))) hk
   exact this
theorem ite_or {α : Type} {p : Prop} [Decidable p] {a b x : α} (h : (if p then a else b) = x) : (p ∧ a = x) ∨ (¬ p ∧ b = x) := by
 by_cases hp : p
 ·exact .inl ⟨hp, by rw [if_pos hp] at h; exact h⟩
 ·exact .inr ⟨hp, by rw [if_neg hp] at h; exact h⟩
/-- The bounds are kept, four more a byte. -/
theorem iw_next {N : Nat} {m m' : Mc} {c : UInt8} (h : Iw N m) (h4 : nextM m c = (0, m')) : Iw (N + 4) m' := by
 obtain ⟨hns, ht, hc⟩ := h.up
 have same : m = m' → Iw (N + 4) m' := fun e => by rw [← e]; exact h.le (by omega)
 unfold nextM at h4
 replace h4 := ite_or h4
 rcases h4 with ⟨hs, h4⟩ | ⟨hs', h4⟩
 ·skip
  split at h4
  ·exact same (Prod.mk.inj h4).2
  split at h4
  ·exact (iw_ends h (.inl (by omega)) h4).le (by omega)
  ·exact iw_begins h.toIv h4
 replace h4 := ite_or h4
 rcases h4 with ⟨hs, h4⟩ | ⟨hs', h4⟩
 ·skip
  split at h4
  ·exact same (Prod.mk.inj h4).2
  split at h4
  ·exact (iw_ends h (.inl (by omega)) h4).le (by omega)
  split at h4
  ·exact absurd (Prod.mk.inj h4).1 (by decide)
  ·obtain rfl := (Prod.mk.inj h4).2
   clear h4
   have h4 : ([] : List UInt8).length ≤ N + 4 := Nat.zero_le _
   refine ⟨⟨?_, ?_, ?_, ?_, ?_, ?_, ?_, ?_, ?_, ?_, ?_, ?_, ?_, ?_⟩, ?_, ?_⟩ <;> first | exact h.l16 | exact hns | exact h.n | exact h.many | exact h.high | exact h.num | exact h4 | exact ht | exact hc | exact Nat.zero_le _ | (show (_ : Nat) ≤ 15; simp; done) | (intro e; simp at e; done) | skip
   exact fun _ _ => h.obj hs
 replace h4 := ite_or h4
 rcases h4 with ⟨hs, h4⟩ | ⟨hs', h4⟩
 ·skip
  split at h4
  ·obtain rfl := (Prod.mk.inj h4).2
   clear h4
   have h4 := h.l16
   refine ⟨⟨?_, ?_, ?_, ?_, ?_, ?_, ?_, ?_, ?_, ?_, ?_, ?_, ?_, ?_⟩, ?_, ?_⟩ <;> first | exact h.l16 | exact hns | exact h.n | exact h.many | exact h.high | exact h.num | exact h4 | exact ht | exact hc | exact Nat.zero_le _ | (show (_ : Nat) ≤ 15; simp; done) | (intro e; simp at e; done) | skip
  split at h4
  ·exact same (Prod.mk.inj h4).2
  ·exact absurd (Prod.mk.inj h4).1 (by decide)
 replace h4 := ite_or h4
 rcases h4 with ⟨hs, h4⟩ | ⟨hs', h4⟩
 ·skip
  exact (iw_ends h (.inr hs) h4).le (by omega)
 replace h4 := ite_or h4
 rcases h4 with ⟨hs, h4⟩ | ⟨hs', h4⟩
 ·skip
  split at h4
  ·exact absurd (Prod.mk.inj h4).1 (by decide)
  split at h4
  ·exact absurd (Prod.mk.inj h4).1 (by decide)
  split at h4
  ·obtain rfl := (Prod.mk.inj h4).2
   rename_i x r _ _ _
   show Iw (N + 4) (doneM { m with rest := r, st := 5 } m.v)
   refine (iw_done (N := N) ?_).le (by omega)
   exact ⟨by show 5 ≤ 15; decide, h.l16, h.tx, h.ch, h.ns, h.n, h.many, fun e => absurd e (by show ¬ ((5 : Nat) = 11); decide), h.high, fun e => absurd e (by show ¬ ((5 : Nat) = 11); decide), h.num, fun e => absurd e (by show ¬ ((5 : Nat) = 6); decide), fun e => absurd e (by show ¬ ((5 : Nat) = 9 ∨ (5 : Nat) = 10 ∨ (5 : Nat) = 11 ∨ (5 : Nat) = 12 ∨ (5 : Nat) = 13 ∨ (5 : Nat) = 15); decide), fun e => absurd e (by show ¬ ((5 : Nat) = 4); decide)⟩
  ·obtain rfl := (Prod.mk.inj h4).2
   rename_i hr
   exact ⟨{ h.toIv with tx := ht, ch := hc, ns := hns, rest := fun _ => hr }, fun e => by have e' : m.st = 15 := e; omega, fun e => by have e' : m.st = 2 ∨ m.st = 3 := e; omega⟩
 replace h4 := ite_or h4
 rcases h4 with ⟨hs, h4⟩ | ⟨hs', h4⟩
 ·exact iw_figure h.toIv h4
 replace h4 := ite_or h4
 rcases h4 with ⟨hs, h4⟩ | ⟨hs', h4⟩
 ·skip
  exact iw_within h.toIv hs h4
 replace h4 := ite_or h4
 rcases h4 with ⟨hs, h4⟩ | ⟨hs', h4⟩
 ·skip
  exact iw_escaped h.toIv hs h4
 replace h4 := ite_or h4
 rcases h4 with ⟨hs, h4⟩ | ⟨hs', h4⟩
 ·skip
  exact iw_hex h.toIv hs h4
 replace h4 := ite_or h4
 rcases h4 with ⟨hs, h4⟩ | ⟨hs', h4⟩
 ·skip
  exact iw_part h.toIv (h.sum hs) (h.key (.inr (.inr (.inr (.inr (.inr hs)))))) h4
 replace h4 := ite_or h4
 rcases h4 with ⟨hs, h4⟩ | ⟨hs', h4⟩
 ·skip
  have hk : m.isKey = true → m.l ≠ [] := h.key (.inr (.inr (.inr (.inl hs))))
  split at h4
  ·exact absurd (Prod.mk.inj h4).1 (by decide)
  ·obtain rfl := (Prod.mk.inj h4).2
   clear h4
   have h4 := h.l16
   refine ⟨⟨?_, ?_, ?_, ?_, ?_, ?_, ?_, ?_, ?_, ?_, ?_, ?_, ?_, ?_⟩, ?_, ?_⟩ <;> first | exact h.l16 | exact hns | exact h.n | exact h.many | exact h.high | exact h.num | exact h4 | exact ht | exact hc | exact Nat.zero_le _ | (show (_ : Nat) ≤ 15; simp; done) | (intro e; simp at e; done) | skip
   exact fun _ => hk
 ·split at h4
  ·exact absurd (Prod.mk.inj h4).1 (by decide)
  ·obtain rfl := (Prod.mk.inj h4).2
   clear h4
   have h4 := h.l16
   refine ⟨⟨?_, ?_, ?_, ?_, ?_, ?_, ?_, ?_, ?_, ?_, ?_, ?_, ?_, ?_⟩, ?_, ?_⟩ <;> first | exact h.l16 | exact hns | exact h.n | exact h.many | exact h.high | exact h.num | exact h4 | exact ht | exact hc | exact Nat.zero_le _ | (show (_ : Nat) ≤ 15; simp; done) | (intro e; simp at e; done) | skip
   ·exact fun _ => ⟨by show 0 ≤ 3; omega, by show 0 < 16 ^ 0; decide⟩
   ·exact fun _ => ⟨fun _ => rfl, fun (e : (0 : Nat) = 1) => absurd e (by decide), fun (e : (0 : Nat) = 2) => absurd e (by decide), fun (e : (0 : Nat) = 3) => absurd e (by decide)⟩
   ·exact fun _ => h.key (by have := h.st; omega)
#print axioms iw_next
end Go.Proofs.YtbnbngmnoffmkaaGreatDoor
end
section
set_option linter.unusedVariables false
set_option maxRecDepth 1000000
namespace Go.Proofs.YtbnbngmnoffmkaaGreatDoor
open Go.RowKit

set_option maxHeartbeats 4000000 in
theorem rput_any (n : Nat) (hn : n ≤ 1114111) {w : World} {g : Nat → Nat} {P base : Nat} {m : Mc} {la : Option Addr} {lc : Nat} {vk vn : Int} {vt : List UInt8} {va1 : Option Addr} {vn1 vc1 : Nat} {va2 : Option Addr} {vn2 vc2 : Nat} {ta : Option Addr} {tc : Nat} {ca : Option Addr} {cc : Nat} {fs : List Value}
  (h : MS w g P base m la lc vk vn vt va1 vn1 vc1 va2 vn2 vc2 ta tc ca cc fs) (hl : m.text.length ≤ 100000000) (hbs : base ≤ w.heap.size) :
  Calls Tryz.prog 78 #[.pointer (some ⟨P, 0, none⟩), .int .i64 (n : Int)] w fun e w' => Mq w g P base (putM m n) e w' := by
 obtain ⟨w1, hw1⟩ : ∃ w1, w1 = w.setCell ⟨P, 0, none⟩ (.int .i64 9) := ⟨_, rfl⟩
 have mv1 : Mv w w1 P := by rw [hw1]; exact Mv.set _ _ _ _
 have h1 : MS w1 g P base { m with st := 9 } la lc vk vn vt va1 vn1 vc1 va2 vn2 vc2 ta tc ca cc fs := h.mv mv1 rfl rfl rfl rfl (by rw [hw1]; exact heap_setCell_same _ _ _ _ _ _ h.row)
 obtain ⟨hcell, hfr⟩ := h.cells
 have c0 := hcell 0 _ rfl
 have f0 := hfr 0
 obtain ⟨hcell1, hfr1⟩ := h1.cells
 have c8 := hcell1 8 _ rfl
 have H1 := hide h1
 have K1 : Hid (Kq w w1 g g (· = 5)) := (Kq.ofMv mv1 h.tP).mono (fun t ht => by omega)
 have HOT := hide h1.tx
 have HBS : Hid (base ≤ w1.heap.size) := Nat.le_trans hbs mv1.size
 obtain ⟨R, hR⟩ : ∃ R, R = putM m n := ⟨_, rfl⟩
 rw [← hR]
 have HR := hide hR
 obtain ⟨e1, e2, e3, e4⟩ := @en_of n
 clear h h1 hcell hfr hcell1 hfr1 mv1 hR
 by_cases n1 : n < 128
 ·have i1 : (n : Int) < 128 := by omega
  obtain ⟨B0, hB0⟩ : ∃ B0 : Nat, B0 = n := ⟨_, rfl⟩
  have hb0 : B0 < 256 := by omega
  have y0 : IntKind.u8.wrap ((n : Int)) = (B0 : Int) := by rw [show (n : Int) = (B0 : Int) by omega]; exact wr8 hb0
  have HE : Hid (enB n = [UInt8.ofNat B0]) := by show _ = _; rw [e1 n1]; simp only [hB0]
  obtain ⟨u, hu⟩ : ∃ u, u = w1.alloc (.cells #[.int .u8 (B0 : Int)] 5) := ⟨_, rfl⟩
  have HBU : Hid (Below w1.heap.size w1 u) := by show Below _ _ _; rw [hu]; exact (Below.refl _ _).alloc (Nat.le_refl _) _
  have HLr : Hid (Row u (some ⟨w1.heap.size, 0, none⟩) [UInt8.ofNat B0]) := by
   show Row _ _ _
   rw [hu]
   exact litR w1 _ [UInt8.ofNat B0] (0, 0) (by simp only [List.map_cons, List.map_nil, u8m hb0])
  have HOU : Hid (OwnB u base ta tc m.text) := (unhide HOT).below (unhide HBU) (Nat.le_refl _)
  have HLn : Hid (m.text.length + [UInt8.ofNat B0].length ≤ 140737488355328) := by show _ ≤ _; simp; omega
  have HBb : Hid (base ≤ u.heap.size) := Nat.le_trans (unhide HBS) (unhide HBU).size
  have HU := hide hu
  clear hu e1 e2 e3 e4 hB0 hb0 
  go_enter Tryz.func78, Tryz.ntmps78
  go_upto_region 2 with fail
  rw [← hw1]
  clear hw1 c0 f0
  go_wp2_with (at_builtin; rw [← unhide HU]; refine wp_appL u rfl _ _ rfl base ta tc m.text rfl (unhide HOU) ⟨w1.heap.size, 0, none⟩ 1 [UInt8.ofNat B0] 1 rfl rfl (by simp) (unhide HLr) (unhide HLn) (unhide HBb) ?_)
  intro G cap r w3 hr ho hg hat
  obtain ⟨w4, hw4⟩ : ∃ w4, w4 = w3.setCell ⟨P, 8, none⟩ (.slice (some ⟨G, 0, none⟩) r.length cap) := ⟨_, rfl⟩
  obtain ⟨k1, k2⟩ := (unhide H1).app (unhide HBU) (unhide ho) (unhide hg) (unhide hat) hw4
  have hrow3 : w3.heap[P]? = some (mcO { m with st := 9 } la lc vk vn vt va1 vn1 vc1 va2 vn2 vc2 ta tc ca cc) := ((unhide hg).block P (Nat.lt_of_lt_of_le (unhide H1).lt (unhide HBU).size) (fun e => (unhide H1).ne.1 P e.symm rfl)).trans (((unhide HBU).block P (unhide H1).lt).trans (unhide H1).row)
  have f8 := frozen_of_row w3 P 8 _ _ hrow3
  have d8 := cell_of_row w3 P 8 _ _ _ hrow3
  simp only [List.getElem?_toArray, List.getElem?_cons_succ, List.getElem?_cons_zero] at d8
  have HF : Hid (Mq w g P base R (.returned (.tuple #[])) w4) := by
   refine ⟨tagB g G 3, rfl, ?_, (unhide K1).trans (k2.mono (fun t ht => by omega))⟩
   rw [unhide HR]
   have := k1.mb
   rw [show r = m.text ++ enB n by rw [unhide hr, unhide HE]] at this
   exact this
  clear k1 k2 hrow3 ho hg hat hr HE HU HLr HOU HLn HBb HBU H1 K1 HOT HBS HR c8
  go_wp2_with fail
  go_end0
  rw [← hw4]
  exact HF
 ·have i1 : ¬ (n : Int) < 128 := by omega
  by_cases n2 : n < 2048
  ·have i2 : (n : Int) < 2048 := by omega
   obtain ⟨q1, hq1⟩ : ∃ q1 : Nat, q1 = n / 64 := ⟨_, rfl⟩
   have zq10 : (n : Int) / 64 = (q1 : Int) := by rw [hq1]; omega
   have zq11 : (n : Int).tdiv 64 = (q1 : Int) := by rw [hq1]; exact (Int.ofNat_tdiv n 64).symm
   obtain ⟨r1, hr1⟩ : ∃ r1 : Nat, r1 = n % 64 := ⟨_, rfl⟩
   have zr10 : (n : Int) % 64 = (r1 : Int) := by rw [hr1]; omega
   have zr11 : (n : Int).tmod 64 = (r1 : Int) := by rw [Int.tmod_eq_emod_of_nonneg (by omega), hr1]; omega
   obtain ⟨B0, hB0⟩ : ∃ B0 : Nat, B0 = 192 + q1 := ⟨_, rfl⟩
   have hb0 : B0 < 256 := by omega
   have y0 : IntKind.u8.wrap (192 + (q1 : Int)) = (B0 : Int) := by rw [show 192 + (q1 : Int) = (B0 : Int) by omega]; exact wr8 hb0
   obtain ⟨B1, hB1⟩ : ∃ B1 : Nat, B1 = 128 + r1 := ⟨_, rfl⟩
   have hb1 : B1 < 256 := by omega
   have y1 : IntKind.u8.wrap (128 + (r1 : Int)) = (B1 : Int) := by rw [show 128 + (r1 : Int) = (B1 : Int) by omega]; exact wr8 hb1
   have HE : Hid (enB n = [UInt8.ofNat B0, UInt8.ofNat B1]) := by show _ = _; rw [e2 n1 n2]; simp only [hB0, hB1, hq1, hr1]
   obtain ⟨u, hu⟩ : ∃ u, u = w1.alloc (.cells #[.int .u8 (B0 : Int), .int .u8 (B1 : Int)] 5) := ⟨_, rfl⟩
   have HBU : Hid (Below w1.heap.size w1 u) := by show Below _ _ _; rw [hu]; exact (Below.refl _ _).alloc (Nat.le_refl _) _
   have HLr : Hid (Row u (some ⟨w1.heap.size, 0, none⟩) [UInt8.ofNat B0, UInt8.ofNat B1]) := by
    show Row _ _ _
    rw [hu]
    exact litR w1 _ [UInt8.ofNat B0, UInt8.ofNat B1] (0, 0) (by simp only [List.map_cons, List.map_nil, u8m hb0, u8m hb1])
   have HOU : Hid (OwnB u base ta tc m.text) := (unhide HOT).below (unhide HBU) (Nat.le_refl _)
   have HLn : Hid (m.text.length + [UInt8.ofNat B0, UInt8.ofNat B1].length ≤ 140737488355328) := by show _ ≤ _; simp; omega
   have HBb : Hid (base ≤ u.heap.size) := Nat.le_trans (unhide HBS) (unhide HBU).size
   have HU := hide hu
   clear hu e1 e2 e3 e4 hB0 hb0 hB1 hb1 hq1 hr1
   go_enter Tryz.func78, Tryz.ntmps78
   go_upto_region 2 with fail
   rw [← hw1]
   clear hw1 c0 f0
   go_wp2_with (at_builtin; rw [← unhide HU]; refine wp_appL u rfl _ _ rfl base ta tc m.text rfl (unhide HOU) ⟨w1.heap.size, 0, none⟩ 2 [UInt8.ofNat B0, UInt8.ofNat B1] 2 rfl rfl (by simp) (unhide HLr) (unhide HLn) (unhide HBb) ?_)
   intro G cap r w3 hr ho hg hat
   obtain ⟨w4, hw4⟩ : ∃ w4, w4 = w3.setCell ⟨P, 8, none⟩ (.slice (some ⟨G, 0, none⟩) r.length cap) := ⟨_, rfl⟩
   obtain ⟨k1, k2⟩ := (unhide H1).app (unhide HBU) (unhide ho) (unhide hg) (unhide hat) hw4
   have hrow3 : w3.heap[P]? = some (mcO { m with st := 9 } la lc vk vn vt va1 vn1 vc1 va2 vn2 vc2 ta tc ca cc) := ((unhide hg).block P (Nat.lt_of_lt_of_le (unhide H1).lt (unhide HBU).size) (fun e => (unhide H1).ne.1 P e.symm rfl)).trans (((unhide HBU).block P (unhide H1).lt).trans (unhide H1).row)
   have f8 := frozen_of_row w3 P 8 _ _ hrow3
   have d8 := cell_of_row w3 P 8 _ _ _ hrow3
   simp only [List.getElem?_toArray, List.getElem?_cons_succ, List.getElem?_cons_zero] at d8
   have HF : Hid (Mq w g P base R (.returned (.tuple #[])) w4) := by
    refine ⟨tagB g G 3, rfl, ?_, (unhide K1).trans (k2.mono (fun t ht => by omega))⟩
    rw [unhide HR]
    have := k1.mb
    rw [show r = m.text ++ enB n by rw [unhide hr, unhide HE]] at this
    exact this
   clear k1 k2 hrow3 ho hg hat hr HE HU HLr HOU HLn HBb HBU H1 K1 HOT HBS HR c8
   go_wp2_with fail
   go_end0
   rw [← hw4]
   exact HF
  ·have i2 : ¬ (n : Int) < 2048 := by omega
   by_cases n3 : n < 65536
   ·have i3 : (n : Int) < 65536 := by omega
    obtain ⟨q1, hq1⟩ : ∃ q1 : Nat, q1 = n / 4096 := ⟨_, rfl⟩
    have zq10 : (n : Int) / 4096 = (q1 : Int) := by rw [hq1]; omega
    have zq11 : (n : Int).tdiv 4096 = (q1 : Int) := by rw [hq1]; exact (Int.ofNat_tdiv n 4096).symm
    obtain ⟨q2, hq2⟩ : ∃ q2 : Nat, q2 = n / 64 := ⟨_, rfl⟩
    have zq20 : (n : Int) / 64 = (q2 : Int) := by rw [hq2]; omega
    have zq21 : (n : Int).tdiv 64 = (q2 : Int) := by rw [hq2]; exact (Int.ofNat_tdiv n 64).symm
    obtain ⟨r2, hr2⟩ : ∃ r2 : Nat, r2 = q2 % 64 := ⟨_, rfl⟩
    have zr20 : (q2 : Int) % 64 = (r2 : Int) := by rw [hr2]; omega
    have zr21 : (q2 : Int).tmod 64 = (r2 : Int) := by rw [Int.tmod_eq_emod_of_nonneg (by omega), hr2]; omega
    obtain ⟨r1, hr1⟩ : ∃ r1 : Nat, r1 = n % 64 := ⟨_, rfl⟩
    have zr10 : (n : Int) % 64 = (r1 : Int) := by rw [hr1]; omega
    have zr11 : (n : Int).tmod 64 = (r1 : Int) := by rw [Int.tmod_eq_emod_of_nonneg (by omega), hr1]; omega
    obtain ⟨B0, hB0⟩ : ∃ B0 : Nat, B0 = 224 + q1 := ⟨_, rfl⟩
    have hb0 : B0 < 256 := by omega
    have y0 : IntKind.u8.wrap (224 + (q1 : Int)) = (B0 : Int) := by rw [show 224 + (q1 : Int) = (B0 : Int) by omega]; exact wr8 hb0
    obtain ⟨B1, hB1⟩ : ∃ B1 : Nat, B1 = 128 + r2 := ⟨_, rfl⟩
    have hb1 : B1 < 256 := by omega
    have y1 : IntKind.u8.wrap (128 + (r2 : Int)) = (B1 : Int) := by rw [show 128 + (r2 : Int) = (B1 : Int) by omega]; exact wr8 hb1
    obtain ⟨B2, hB2⟩ : ∃ B2 : Nat, B2 = 128 + r1 := ⟨_, rfl⟩
    have hb2 : B2 < 256 := by omega
    have y2 : IntKind.u8.wrap (128 + (r1 : Int)) = (B2 : Int) := by rw [show 128 + (r1 : Int) = (B2 : Int) by omega]; exact wr8 hb2
    have HE : Hid (enB n = [UInt8.ofNat B0, UInt8.ofNat B1, UInt8.ofNat B2]) := by show _ = _; rw [e3 n1 n2 n3]; simp only [hB0, hB1, hB2, hq1, hq2, hr2, hr1]
    obtain ⟨u, hu⟩ : ∃ u, u = w1.alloc (.cells #[.int .u8 (B0 : Int), .int .u8 (B1 : Int), .int .u8 (B2 : Int)] 5) := ⟨_, rfl⟩
    have HBU : Hid (Below w1.heap.size w1 u) := by show Below _ _ _; rw [hu]; exact (Below.refl _ _).alloc (Nat.le_refl _) _
    have HLr : Hid (Row u (some ⟨w1.heap.size, 0, none⟩) [UInt8.ofNat B0, UInt8.ofNat B1, UInt8.ofNat B2]) := by
     show Row _ _ _
     rw [hu]
     exact litR w1 _ [UInt8.ofNat B0, UInt8.ofNat B1, UInt8.ofNat B2] (0, 0) (by simp only [List.map_cons, List.map_nil, u8m hb0, u8m hb1, u8m hb2])
    have HOU : Hid (OwnB u base ta tc m.text) := (unhide HOT).below (unhide HBU) (Nat.le_refl _)
    have HLn : Hid (m.text.length + [UInt8.ofNat B0, UInt8.ofNat B1, UInt8.ofNat B2].length ≤ 140737488355328) := by show _ ≤ _; simp; omega
    have HBb : Hid (base ≤ u.heap.size) := Nat.le_trans (unhide HBS) (unhide HBU).size
    have HU := hide hu
    clear hu e1 e2 e3 e4 hB0 hb0 hB1 hb1 hB2 hb2 hq1 hq2 hr2 hr1
    go_enter Tryz.func78, Tryz.ntmps78
    go_upto_region 2 with fail
    rw [← hw1]
    clear hw1 c0 f0
    go_wp2_with (at_builtin; rw [← unhide HU]; refine wp_appL u rfl _ _ rfl base ta tc m.text rfl (unhide HOU) ⟨w1.heap.size, 0, none⟩ 3 [UInt8.ofNat B0, UInt8.ofNat B1, UInt8.ofNat B2] 3 rfl rfl (by simp) (unhide HLr) (unhide HLn) (unhide HBb) ?_)
    intro G cap r w3 hr ho hg hat
    obtain ⟨w4, hw4⟩ : ∃ w4, w4 = w3.setCell ⟨P, 8, none⟩ (.slice (some ⟨G, 0, none⟩) r.length cap) := ⟨_, rfl⟩
    obtain ⟨k1, k2⟩ := (unhide H1).app (unhide HBU) (unhide ho) (unhide hg) (unhide hat) hw4
    have hrow3 : w3.heap[P]? = some (mcO { m with st := 9 } la lc vk vn vt va1 vn1 vc1 va2 vn2 vc2 ta tc ca cc) := ((unhide hg).block P (Nat.lt_of_lt_of_le (unhide H1).lt (unhide HBU).size) (fun e => (unhide H1).ne.1 P e.symm rfl)).trans (((unhide HBU).block P (unhide H1).lt).trans (unhide H1).row)
    have f8 := frozen_of_row w3 P 8 _ _ hrow3
    have d8 := cell_of_row w3 P 8 _ _ _ hrow3
    simp only [List.getElem?_toArray, List.getElem?_cons_succ, List.getElem?_cons_zero] at d8
    have HF : Hid (Mq w g P base R (.returned (.tuple #[])) w4) := by
     refine ⟨tagB g G 3, rfl, ?_, (unhide K1).trans (k2.mono (fun t ht => by omega))⟩
     rw [unhide HR]
     have := k1.mb
     rw [show r = m.text ++ enB n by rw [unhide hr, unhide HE]] at this
     exact this
    clear k1 k2 hrow3 ho hg hat hr HE HU HLr HOU HLn HBb HBU H1 K1 HOT HBS HR c8
    go_wp2_with fail
    go_end0
    rw [← hw4]
    exact HF
   ·have i3 : ¬ (n : Int) < 65536 := by omega
    obtain ⟨q1, hq1⟩ : ∃ q1 : Nat, q1 = n / 262144 := ⟨_, rfl⟩
    have zq10 : (n : Int) / 262144 = (q1 : Int) := by rw [hq1]; omega
    have zq11 : (n : Int).tdiv 262144 = (q1 : Int) := by rw [hq1]; exact (Int.ofNat_tdiv n 262144).symm
    obtain ⟨q2, hq2⟩ : ∃ q2 : Nat, q2 = n / 4096 := ⟨_, rfl⟩
    have zq20 : (n : Int) / 4096 = (q2 : Int) := by rw [hq2]; omega
    have zq21 : (n : Int).tdiv 4096 = (q2 : Int) := by rw [hq2]; exact (Int.ofNat_tdiv n 4096).symm
    obtain ⟨r2, hr2⟩ : ∃ r2 : Nat, r2 = q2 % 64 := ⟨_, rfl⟩
    have zr20 : (q2 : Int) % 64 = (r2 : Int) := by rw [hr2]; omega
    have zr21 : (q2 : Int).tmod 64 = (r2 : Int) := by rw [Int.tmod_eq_emod_of_nonneg (by omega), hr2]; omega
    obtain ⟨q3, hq3⟩ : ∃ q3 : Nat, q3 = n / 64 := ⟨_, rfl⟩
    have zq30 : (n : Int) / 64 = (q3 : Int) := by rw [hq3]; omega
    have zq31 : (n : Int).tdiv 64 = (q3 : Int) := by rw [hq3]; exact (Int.ofNat_tdiv n 64).symm
    obtain ⟨r3, hr3⟩ : ∃ r3 : Nat, r3 = q3 % 64 := ⟨_, rfl⟩
    have zr30 : (q3 : Int) % 64 = (r3 : Int) := by rw [hr3]; omega
    have zr31 : (q3 : Int).tmod 64 = (r3 : Int) := by rw [Int.tmod_eq_emod_of_nonneg (by omega), hr3]; omega
    obtain ⟨r1, hr1⟩ : ∃ r1 : Nat, r1 = n % 64 := ⟨_, rfl⟩
    have zr10 : (n : Int) % 64 = (r1 : Int) := by rw [hr1]; omega
    have zr11 : (n : Int).tmod 64 = (r1 : Int) := by rw [Int.tmod_eq_emod_of_nonneg (by omega), hr1]; omega
    obtain ⟨B0, hB0⟩ : ∃ B0 : Nat, B0 = 240 + q1 := ⟨_, rfl⟩
    have hb0 : B0 < 256 := by omega
    have y0 : IntKind.u8.wrap (240 + (q1 : Int)) = (B0 : Int) := by rw [show 240 + (q1 : Int) = (B0 : Int) by omega]; exact wr8 hb0
    obtain ⟨B1, hB1⟩ : ∃ B1 : Nat, B1 = 128 + r2 := ⟨_, rfl⟩
    have hb1 : B1 < 256 := by omega
    have y1 : IntKind.u8.wrap (128 + (r2 : Int)) = (B1 : Int) := by rw [show 128 + (r2 : Int) = (B1 : Int) by omega]; exact wr8 hb1
    obtain ⟨B2, hB2⟩ : ∃ B2 : Nat, B2 = 128 + r3 := ⟨_, rfl⟩
    have hb2 : B2 < 256 := by omega
    have y2 : IntKind.u8.wrap (128 + (r3 : Int)) = (B2 : Int) := by rw [show 128 + (r3 : Int) = (B2 : Int) by omega]; exact wr8 hb2
    obtain ⟨B3, hB3⟩ : ∃ B3 : Nat, B3 = 128 + r1 := ⟨_, rfl⟩
    have hb3 : B3 < 256 := by omega
    have y3 : IntKind.u8.wrap (128 + (r1 : Int)) = (B3 : Int) := by rw [show 128 + (r1 : Int) = (B3 : Int) by omega]; exact wr8 hb3
    have HE : Hid (enB n = [UInt8.ofNat B0, UInt8.ofNat B1, UInt8.ofNat B2, UInt8.ofNat B3]) := by show _ = _; rw [e4 n1 n2 n3]; simp only [hB0, hB1, hB2, hB3, hq1, hq2, hr2, hq3, hr3, hr1]
    obtain ⟨u, hu⟩ : ∃ u, u = w1.alloc (.cells #[.int .u8 (B0 : Int), .int .u8 (B1 : Int), .int .u8 (B2 : Int), .int .u8 (B3 : Int)] 5) := ⟨_, rfl⟩
    have HBU : Hid (Below w1.heap.size w1 u) := by show Below _ _ _; rw [hu]; exact (Below.refl _ _).alloc (Nat.le_refl _) _
    have HLr : Hid (Row u (some ⟨w1.heap.size, 0, none⟩) [UInt8.ofNat B0, UInt8.ofNat B1, UInt8.ofNat B2, UInt8.ofNat B3]) := by
     show Row _ _ _
     rw [hu]
     exact litR w1 _ [UInt8.ofNat B0, UInt8.ofNat B1, UInt8.ofNat B2, UInt8.ofNat B3] (0, 0) (by simp only [List.map_cons, List.map_nil, u8m hb0, u8m hb1, u8m hb2, u8m hb3])
    have HOU : Hid (OwnB u base ta tc m.text) := (unhide HOT).below (unhide HBU) (Nat.le_refl _)
    have HLn : Hid (m.text.length + [UInt8.ofNat B0, UInt8.ofNat B1, UInt8.ofNat B2, UInt8.ofNat B3].length ≤ 140737488355328) := by show _ ≤ _; simp; omega
    have HBb : Hid (base ≤ u.heap.size) := Nat.le_trans (unhide HBS) (unhide HBU).size
    have HU := hide hu
    clear hu e1 e2 e3 e4 hB0 hb0 hB1 hb1 hB2 hb2 hB3 hb3 hq1 hq2 hr2 hq3 hr3 hr1
    go_enter Tryz.func78, Tryz.ntmps78
    go_upto_region 2 with fail
    rw [← hw1]
    clear hw1 c0 f0
    go_wp2_with (at_builtin; rw [← unhide HU]; refine wp_appL u rfl _ _ rfl base ta tc m.text rfl (unhide HOU) ⟨w1.heap.size, 0, none⟩ 4 [UInt8.ofNat B0, UInt8.ofNat B1, UInt8.ofNat B2, UInt8.ofNat B3] 4 rfl rfl (by simp) (unhide HLr) (unhide HLn) (unhide HBb) ?_)
    intro G cap r w3 hr ho hg hat
    obtain ⟨w4, hw4⟩ : ∃ w4, w4 = w3.setCell ⟨P, 8, none⟩ (.slice (some ⟨G, 0, none⟩) r.length cap) := ⟨_, rfl⟩
    obtain ⟨k1, k2⟩ := (unhide H1).app (unhide HBU) (unhide ho) (unhide hg) (unhide hat) hw4
    have hrow3 : w3.heap[P]? = some (mcO { m with st := 9 } la lc vk vn vt va1 vn1 vc1 va2 vn2 vc2 ta tc ca cc) := ((unhide hg).block P (Nat.lt_of_lt_of_le (unhide H1).lt (unhide HBU).size) (fun e => (unhide H1).ne.1 P e.symm rfl)).trans (((unhide HBU).block P (unhide H1).lt).trans (unhide H1).row)
    have f8 := frozen_of_row w3 P 8 _ _ hrow3
    have d8 := cell_of_row w3 P 8 _ _ _ hrow3
    simp only [List.getElem?_toArray, List.getElem?_cons_succ, List.getElem?_cons_zero] at d8
    have HF : Hid (Mq w g P base R (.returned (.tuple #[])) w4) := by
     refine ⟨tagB g G 3, rfl, ?_, (unhide K1).trans (k2.mono (fun t ht => by omega))⟩
     rw [unhide HR]
     have := k1.mb
     rw [show r = m.text ++ enB n by rw [unhide hr, unhide HE]] at this
     exact this
    clear k1 k2 hrow3 ho hg hat hr HE HU HLr HOU HLn HBb HBU H1 K1 HOT HBS HR c8
    go_wp2_with fail
    go_end0
    rw [← hw4]
    exact HF
#print axioms rput_any
end Go.Proofs.YtbnbngmnoffmkaaGreatDoor
end
section
set_option linter.unusedVariables false
set_option maxRecDepth 1000000
namespace Go.Proofs.YtbnbngmnoffmkaaGreatDoor
open Go.RowKit

set_option maxHeartbeats 8000000 in
theorem rpart_any (c : UInt8) {w : World} {g : Nat → Nat} {P base : Nat} {m : Mc} {la : Option Addr} {lc : Nat} {vk vn : Int} {vt : List UInt8} {va1 : Option Addr} {vn1 vc1 : Nat} {va2 : Option Addr} {vn2 vc2 : Nat} {ta : Option Addr} {tc : Nat} {ca : Option Addr} {cc : Nat} {fs : List Value}
  (h : MS w g P base m la lc vk vn vt va1 vn1 vc1 va2 vn2 vc2 ta tc ca cc fs) (hl : m.text.length ≤ 100000000) (hcl : m.char.length ≤ 900000) (hbs : base ≤ w.heap.size) :
  Calls Tryz.prog 49 #[.pointer (some ⟨P, 0, none⟩), .int .u8 (c.toNat : Int)] w fun e w' => Mp w g P base (partM m c) e w' := by
 have HH := hide h
 obtain ⟨hcell, hfr⟩ := h.cells
 have c10 := hcell 10 _ rfl
 have HCB := hide h.ch.toBs
 have HEm : Hid (OwnB (w.alloc (.cells #[] 5)) w.heap.size (some ⟨w.heap.size, 0, none⟩) 0 []) := own_empty w _ (Nat.le_refl _)
 have HSx := hide ((unhide HCB).row.alloc (.cells #[] 5))
 have HSz := hide (unhide HCB).nz
 have HLn : Hid (([] : List UInt8).length + m.char.length ≤ 140737488355328) := by show 0 + _ ≤ _; omega
 have HBa : Hid (w.heap.size ≤ (w.alloc (.cells #[] 5)).heap.size) := by show _ ≤ _; simp
 have HCE : Hid (∀ o, (w.alloc o).cell? ⟨P, 10, none⟩ = some (.slice ca m.char.length cc)) := fun o => Lib.cell?_alloc_some o c10
 have ce := fun o => unhide HCE o
 have HBS := hide hbs
 obtain ⟨R, hR⟩ : ∃ R, R = partM m c := ⟨_, rfl⟩
 rw [← hR]
 unfold partM at hR
 have HR := hide hR
 clear h hcell hfr hR hbs
 go_enter Tryz.func49, Tryz.ntmps49
 go_wp2_with (at_builtin; refine wp_app _ rfl _ _ rfl w.heap.size (some ⟨w.heap.size, 0, none⟩) 0 [] rfl (unhide HEm) ca cc m.char _ rfl rfl (unhide HSx) (unhide HSz) (unhide HLn) (unhide HBa) ?_)
 intro a1 c1 r1 w1 hr1 ho1 hg1
 have HB1 : Hid (Below w.heap.size w w1) := below_grown (a := some ⟨w.heap.size, 0, none⟩) ((Below.refl _ _).alloc (Nat.le_refl _) _) hg1 (Nat.le_refl _) (fun k hk => by simp [blk] at hk; omega)
 have HR1 : Hid (r1 = m.char) := by show _ = _; simpa using unhide hr1
 have HO1 := hide ho1
 have HL1 : Hid (r1.length = m.char.length) := by show _ = _; rw [unhide HR1]
 clear hr1 ho1 hg1 HEm HSx HSz HLn HBa HCE ce c10
 have HO1a : Hid (OwnB (w1.alloc (.cells #[.int .u8 (c.toNat : Int)] 5)) w.heap.size a1 c1 r1) := (unhide HO1).alloc _
 have HLr : Hid (Row (w1.alloc (.cells #[.int .u8 (c.toNat : Int)] 5)) (some ⟨w1.heap.size, 0, none⟩) [c]) := litR w1 _ [c] (0, 0) rfl
 have HLn : Hid (r1.length + [c].length ≤ 140737488355328) := by show _ ≤ _; rw [unhide HL1]; simp; omega
 have HBa : Hid (w.heap.size ≤ (w1.alloc (.cells #[.int .u8 (c.toNat : Int)] 5)).heap.size) := by have := (unhide HB1).size; show _ ≤ _; simp; omega
 go_wp2_with (at_builtin; refine wp_app _ rfl _ _ rfl w.heap.size a1 c1 r1 rfl (unhide HO1a) (some ⟨w1.heap.size, 0, none⟩) 1 [c] 1 rfl rfl (unhide HLr) (fun h => by cases h) (unhide HLn) (unhide HBa) ?_)
 intro a2 c2 b w2 hr2 ho2 hg2
 have HB2 : Hid (Below w.heap.size w w2) := below_grown (a := a1) ((unhide HB1).alloc (unhide HB1).size _) hg2 (Nat.le_refl _) (fun k hk => ((unhide HO1).lt k hk).1)
 have HR2 : Hid (b = m.char ++ [c]) := by show _ = _; rw [unhide hr2, unhide HR1]
 have hl2 : b.length ≤ 1000000 := by rw [unhide HR2, List.length_append]; simp; omega
 have hl0 : 0 < b.length := by rw [unhide HR2, List.length_append]; simp
 obtain ⟨G, rfl⟩ : ∃ G, a2 = some ⟨G, 0, none⟩ := by
  rcases ho2.cases with ⟨_, _, h3⟩ | ⟨gg, _, h3, _⟩
  ·rw [h3] at hl0; simp at hl0
  ·exact ⟨gg, h3⟩
 have HO2 := hide ho2
 have HCh := hide (rchars_any says4 (some ⟨G, 0, none⟩) b.length c2 b w2 ho2.toBs rfl (by omega))
 have HBg : Hid (∀ u, Below w2.heap.size w2 u → Calls Tryz.prog 81 #[.slice (some ⟨G, 0, none⟩) b.length c2] u fun e w' => e = .returned (.bool (begB b)) ∧ Hid (Below u.heap.size u w')) := fun u hu => rbegins_any _ c2 b u (ho2.toBs.below hu (Nat.le_refl _)) (by omega)
 rw [← unhide HR2] at HR
 clear hr2 ho2 hg2 HO1 HB1 HR1 HL1 HLr HLn HBa HO1a hcl HCB HR2
 go_wp2_with fail
 refine (unhide HCh).mono ?_
 rintro e w3 ⟨rfl, hb3⟩
 have HB23 := hide hb3
 have HB3 : Hid (Below w.heap.size w w3) := (unhide HB2).trans (hb3.mono (unhide HB2).size)
 have HO3 : Hid (OwnB w3 w.heap.size (some ⟨G, 0, none⟩) c2 b) := (unhide HO2).below hb3 (Nat.le_refl _)
 have h3 := (unhide HH).below (unhide HB3)
 obtain ⟨hc3, hf3⟩ := h3.cells
 have d0 := hc3 0 _ rfl
 have d8 := hc3 8 _ rfl
 have d10 := hc3 10 _ rfl
 have g0 := hf3 0
 have g8 := hf3 8
 have g10 := hf3 10
 have H3 := hide h3
 clear HCh hb3 HB2 HO2 h3 hc3 hf3
 by_cases hch : chr b = none
 ·have hneg := (ch_neg b).2 hch
  generalize chI b = X at hneg
  have HE : Hid (R = (0, { m with text := m.text ++ b, st := 9 })) := by show _ = _; rw [unhide HR, if_pos hch]
  have HOT : Hid (OwnB w3 base ta tc m.text) := (unhide H3).tx
  have HRb := hide (unhide HO3).toBs.row
  have HLn : Hid (m.text.length + b.length ≤ 140737488355328) := by show _ ≤ _; omega
  have HBb : Hid (base ≤ w3.heap.size) := Nat.le_trans (unhide HBS) (unhide HB3).size
  clear hch HR HBg d10 g10 g0 d0 g8
  go_wp2_with (at_builtin; refine wp_appL w3 rfl _ _ rfl base ta tc m.text rfl (unhide HOT) ⟨G, 0, none⟩ c2 b b.length rfl rfl hl0 (unhide HRb) (unhide HLn) (unhide HBb) ?_)
  intro G5 cap r w4 hr ho hg hat
  obtain ⟨w5, hw5⟩ : ∃ w5, w5 = w4.setCell ⟨P, 8, none⟩ (.slice (some ⟨G5, 0, none⟩) r.length cap) := ⟨_, rfl⟩
  obtain ⟨k1, k2⟩ := (unhide H3).app (Below.refl _ _) (unhide ho) (unhide hg) (unhide hat) hw5
  have hrow4 : w4.heap[P]? = some (mcO m la lc vk vn vt va1 vn1 vc1 va2 vn2 vc2 ta tc ca cc) := ((unhide hg).block P (unhide H3).lt (fun e => (unhide H3).ne.1 P e.symm rfl)).trans (unhide H3).row
  have f8 := frozen_of_row w4 P 8 _ _ hrow4
  have e8 := cell_of_row w4 P 8 _ _ _ hrow4
  simp only [List.getElem?_toArray, List.getElem?_cons_succ, List.getElem?_cons_zero] at e8
  obtain ⟨hc5, hf5⟩ := k1.cells
  have e0 := hc5 0 _ rfl
  have f0 := hf5 0
  have HF : Hid (∀ w', w' = w5.setCell ⟨P, 0, none⟩ (.int .i64 9) → Mp w g P base R (.returned (.int .i64 0)) w') := fun w' e => by
   rw [unhide HE]
   have mv : Mv w5 w' P := by rw [e]; exact Mv.set _ _ _ _
   have e9 : r = m.text ++ b := unhide hr
   have := k1.mv (m' := { m with text := r, st := 9 }) mv rfl rfl rfl rfl (by rw [e]; exact heap_setCell_same _ _ _ _ _ _ k1.row)
   rw [e9] at this
   exact ⟨tagB g G5 3, rfl, fun _ => this.mb, (Kq.ofB (unhide HB3)).trans ((k2.mono (fun t ht => by omega)).trans ((Kq.ofMv mv k1.tP).mono (fun t ht => by omega)))⟩
  clear k1 k2 hrow4 hc5 hf5 ho hg hat hr HE HOT HRb HLn HBb HBS H3 HH HO3 HB3 HB23 d8
  go_upto_region 4 with fail
  rw [← hw5]
  clear hw5 e8 f8
  go_wp2_with fail
  go_ret
  exact unhide HF _ rfl
 ·have hneg : ¬ chI b < 0 := fun k => hch ((ch_neg b).1 k)
  have HBg3 := hide (unhide HBg w3 (unhide HB23))
  generalize chI b = X at hneg
  have HR' : Hid (R = if begB b = false then (40, m) else (0, { m with char := b, st := 15 })) := by show _ = _; rw [unhide HR, if_neg hch]
  generalize begB b = bg at HBg3 HR'
  clear hch HR HBg d8 g8 d10 d0 g10 g0 HB23
  go_wp2_with fail
  refine (unhide HBg3).mono ?_
  rintro e w4 ⟨rfl, hb4⟩
  have HB4 : Hid (Below w.heap.size w w4) := (unhide HB3).trans ((unhide hb4).mono (unhide HB3).size)
  have HO4 : Hid (OwnB w4 w.heap.size (some ⟨G, 0, none⟩) c2 b) := (unhide HO3).below (unhide hb4) (Nat.le_refl _)
  have H4 := hide ((unhide H3).below (unhide hb4))
  clear HBg3 hb4 HB3 HO3 H3
  cases bg with
  | false =>
   have HE : Hid (Mp w g P base R (.returned (.int .i64 40)) w4) := by
    show Mp _ _ _ _ _ _ _
    rw [unhide HR', if_pos rfl]
    exact ⟨g, rfl, fun e => (by cases e), Kq.ofB (unhide HB4)⟩
   go_wp2_with fail
   go_ret
   exact HE
  | true =>
   obtain ⟨hc4, hf4⟩ := (unhide H4).cells
   have d0 := hc4 0 _ rfl
   have d10 := hc4 10 _ rfl
   have g0 := hf4 0
   have g10 := hf4 10
   have HF : Hid (∀ w', w' = (w4.setCell ⟨P, 10, none⟩ (.slice (some ⟨G, 0, none⟩) b.length c2)).setCell ⟨P, 0, none⟩ (.int .i64 15) → Mp w g P base R (.returned (.int .i64 0)) w') := fun w' e => by
    rw [unhide HR', if_neg (by simp)]
    have mv : Mv w4 w' P := by rw [e]; exact (Mv.set _ _ _ _).trans (Mv.set _ _ _ _)
    have hG := (unhide HO4).lt G rfl
    have hPl := (unhide HH).lt
    have hPG : P ≠ G := by omega
    have K : Kq w w' g (tagB g G 4) (fun t => t ≠ 1) := by
     have b4 := unhide HB4
     refine ⟨mv.os.trans b4.os, mv.tape.trans b4.tape, mv.output.trans b4.output, Nat.le_trans b4.size mv.size, fun k hk ht => ⟨tagB_ne (by omega), ?_⟩⟩
     exact (mv.block k (Nat.lt_of_lt_of_le hk b4.size) (fun e => ht (by rw [Option.some.inj e]; exact (unhide HH).tP))).trans (b4.block k hk)
    have := (unhide HH).re (w' := w') (g' := tagB g G 4) (m' := { m with char := b, st := 15 }) (ta' := ta) (tc' := tc) (ca' := some ⟨G, 0, none⟩) (cc' := c2) (K.mono (fun t ht => ht.1)) rfl
     (by rw [e]; exact heap_setCell_same _ _ _ _ _ _ (heap_setCell_same _ _ _ _ _ _ (unhide H4).row)) (jv_kq K (by omega) (unhide HH).jv)
     (owns_same (unhide HH).tx (fun k hk => (K.tag k (owns_lt (unhide HH).tx k hk).2 (by rw [(unhide HH).tt k hk]; omega)).2))
     (owns_same ((unhide HO4).base (unhide HBS)) (fun k hk => mv.block k (by have : G = k := (by simpa [blk] using hk); omega) (fun e => by have : G = k := (by simpa [blk] using hk); have := Option.some.inj e; omega)))
     (by rw [tagB_ne hPG]; exact (unhide HH).tP)
     (fun k hk => (K.tag k (owns_lt (unhide HH).tx k hk).2 (by rw [(unhide HH).tt k hk]; omega)).1.trans ((unhide HH).tt k hk))
     (fun k hk => by have : G = k := (by simpa [blk] using hk); subst this; exact tagB_at _ _ _)
    exact ⟨tagB g G 4, rfl, fun _ => this.mb, K.mono (fun t ht => by omega)⟩
   clear hc4 hf4 HR' HH H4 HO4 HB4 HBS
   go_wp2_with fail
   go_ret
   exact unhide HF _ rfl
#print axioms rpart_any
end Go.Proofs.YtbnbngmnoffmkaaGreatDoor
end
section
set_option linter.unusedVariables false
set_option maxRecDepth 1000000
namespace Go.Proofs.YtbnbngmnoffmkaaGreatDoor
open Go.RowKit

theorem jv_text (w : World) (S : Nat → Prop) (t : List UInt8) : JV w S (.agg #[.int .i64 3, .int .i64 0, .string (str t), .slice none 0 0, .slice none 0 0]) (.mk 3 0 t [] []) := by
 simp only [JV]
 refine ⟨none, 0, none, 0, rfl, ?_, Nat.le_refl _, Nat.zero_le _, fun _ => rfl, Nat.le_refl _, Nat.zero_le _, fun _ => rfl, ?_⟩ <;> simp [NsF, JVs]
set_option maxHeartbeats 16000000 in
theorem rwi_done (base N : Nat) (hN : N ≤ 1000000) (c : UInt8) (hc : c = 34) {w : World} {g : Nat → Nat} {P : Nat} {m : Mc} {la : Option Addr} {lc : Nat} {vk vn : Int} {vt : List UInt8} {va1 : Option Addr} {vn1 vc1 : Nat} {va2 : Option Addr} {vn2 vc2 : Nat} {ta : Option Addr} {tc : Nat} {ca : Option Addr} {cc : Nat} {fs : List Value}
  (h : MS w g P base m la lc vk vn vt va1 vn1 vc1 va2 vn2 vc2 ta tc ca cc fs) (hbs : base ≤ w.heap.size) (hi : Iv N m) (hk : m.isKey = false) :
  Calls Tryz.prog 46 #[.pointer (some ⟨P, 0, none⟩), .int .u8 (c.toNat : Int)] w fun e w' => Mp w g P base (withinM m c) e w' := by
 have H := hide h
 obtain ⟨hcell, hfr⟩ := h.cells
 have c8 := hcell 8 _ rfl
 have f8 := hfr 8
 have c9 := hcell 9 _ rfl
 have f9 := hfr 9
 try dsimp only at c8
 try dsimp only at c9
 have HB := hide hbs
 have HI := hide hi
 obtain ⟨R, hR⟩ : ∃ R, R = withinM m c := ⟨_, rfl⟩
 rw [← hR]
 unfold withinM at hR
 have HR := hide hR
 clear hcell hfr h hR hbs hi
 rw [hk] at c9
 have u34 : ((c.toNat : Int) == 34) = true := by rw [hc]; rfl
 have kc : (convert 50 9 (.slice ta m.text.length tc)).run Tryz.prog w = .ok (.string (str m.text)) w := run_str _ _ _ _ _ (unhide H).tx.toBs.row rfl
 have HDn := hide (rdone_any base N hN (.mk 3 0 m.text [] []) 3 0 m.text none 0 0 none 0 0 w g P m (unhide H).mb (jv_text _ _ _) (unhide HB) (fun o ho => ⟨((unhide HI).ns o ho).1, ((unhide HI).ns o ho).2.1⟩) (unhide HI).l16)
 have HE : Hid (R = (0, doneM m (.mk 3 0 m.text [] []))) := by show _ = _; rw [unhide HR, if_pos hc, if_pos hk]
 generalize doneM m (.mk 3 0 m.text [] []) = DM at HDn HE
 clear HR hc hk
 go_enter Tryz.func46, Tryz.ntmps46
 go_wp2_with fail
 refine (unhide HDn).mono ?_
 rintro e w3 ⟨g3, rfl, m3, k3⟩
 have HM3 := hide m3
 have HK3 := hide k3
 clear m3 k3 HDn
 go_wp2_with fail
 go_ret
 show Mp _ g P base R _ _
 rw [unhide HE]
 exact ⟨g3, rfl, fun _ => unhide HM3, unhide HK3⟩
set_option maxHeartbeats 16000000 in
theorem rwi_low (base N : Nat) (hN : N ≤ 1000000) (c : UInt8) (hc : c ≠ 34) (h32 : c.toNat < 32) {w : World} {g : Nat → Nat} {P : Nat} {m : Mc} {la : Option Addr} {lc : Nat} {vk vn : Int} {vt : List UInt8} {va1 : Option Addr} {vn1 vc1 : Nat} {va2 : Option Addr} {vn2 vc2 : Nat} {ta : Option Addr} {tc : Nat} {ca : Option Addr} {cc : Nat} {fs : List Value}
  (h : MS w g P base m la lc vk vn vt va1 vn1 vc1 va2 vn2 vc2 ta tc ca cc fs) (hbs : base ≤ w.heap.size) (hi : Iv N m) :
  Calls Tryz.prog 46 #[.pointer (some ⟨P, 0, none⟩), .int .u8 (c.toNat : Int)] w fun e w' => Mp w g P base (withinM m c) e w' := by
 have H := hide h
 obtain ⟨hcell, hfr⟩ := h.cells
 have c0 := hcell 0 _ rfl
 have f0 := hfr 0
 try dsimp only at c0
 have HB := hide hbs
 have HI := hide hi
 obtain ⟨R, hR⟩ : ∃ R, R = withinM m c := ⟨_, rfl⟩
 rw [← hR]
 unfold withinM at hR
 have HR := hide hR
 clear hcell hfr h hR hbs hi
 have u34 : ((c.toNat : Int) == 34) = false := by rw [beq_eq_false_iff_ne]; omega
 have a32 : (c.toNat : Int) < 32 := by omega
 have HE : Hid (R = (40, m)) := by show _ = _; rw [unhide HR, if_neg hc, if_pos h32]
 clear HR hc h32
 go_enter Tryz.func46, Tryz.ntmps46
 go_wp2_with fail
 go_ret
 show Mp _ g P base R _ _
 rw [unhide HE]
 exact (unhide H).fail 40 (by omega) m
set_option maxHeartbeats 16000000 in
theorem rwi_esc (base N : Nat) (hN : N ≤ 1000000) (c : UInt8) (hc : c = 92) {w : World} {g : Nat → Nat} {P : Nat} {m : Mc} {la : Option Addr} {lc : Nat} {vk vn : Int} {vt : List UInt8} {va1 : Option Addr} {vn1 vc1 : Nat} {va2 : Option Addr} {vn2 vc2 : Nat} {ta : Option Addr} {tc : Nat} {ca : Option Addr} {cc : Nat} {fs : List Value}
  (h : MS w g P base m la lc vk vn vt va1 vn1 vc1 va2 vn2 vc2 ta tc ca cc fs) (hbs : base ≤ w.heap.size) (hi : Iv N m) :
  Calls Tryz.prog 46 #[.pointer (some ⟨P, 0, none⟩), .int .u8 (c.toNat : Int)] w fun e w' => Mp w g P base (withinM m c) e w' := by
 have H := hide h
 obtain ⟨hcell, hfr⟩ := h.cells
 have c0 := hcell 0 _ rfl
 have f0 := hfr 0
 try dsimp only at c0
 have HB := hide hbs
 have HI := hide hi
 obtain ⟨R, hR⟩ : ∃ R, R = withinM m c := ⟨_, rfl⟩
 rw [← hR]
 unfold withinM at hR
 have HR := hide hR
 clear hcell hfr h hR hbs hi
 have u34 : ((c.toNat : Int) == 34) = false := by rw [hc]; rfl
 have a32 : ¬ ((c.toNat : Int) < 32) := by rw [hc]; decide
 have u92 : ((c.toNat : Int) == 92) = true := by rw [hc]; rfl
 have HE : Hid (R = (0, { m with st := 10 })) := by show _ = _; rw [unhide HR, hc]; rfl
 have HF : Hid (∀ w', w' = w.setCell ⟨P, 0, none⟩ (.int .i64 10) → Mp w g P base (0, { m with st := 10 }) (.returned (.int .i64 0)) w') := fun w' e => by
  have mv : Mv w w' P := by rw [e]; exact Mv.set _ _ _ _
  exact (unhide H).fin0 mv rfl rfl rfl rfl (by rw [e]; exact heap_setCell_same _ _ _ _ _ _ (unhide H).row)
 clear HR hc
 go_enter Tryz.func46, Tryz.ntmps46
 go_wp2_with fail
 go_ret
 show Mp _ g P base R _ _
 rw [unhide HE]
 exact unhide HF _ rfl
set_option maxHeartbeats 16000000 in
theorem rwi_byte (base N : Nat) (hN : N ≤ 1000000) (c : UInt8) (hc : c ≠ 34) (h32 : ¬ c.toNat < 32) (h92 : c ≠ 92) (h128 : c.toNat < 128) {w : World} {g : Nat → Nat} {P : Nat} {m : Mc} {la : Option Addr} {lc : Nat} {vk vn : Int} {vt : List UInt8} {va1 : Option Addr} {vn1 vc1 : Nat} {va2 : Option Addr} {vn2 vc2 : Nat} {ta : Option Addr} {tc : Nat} {ca : Option Addr} {cc : Nat} {fs : List Value}
  (h : MS w g P base m la lc vk vn vt va1 vn1 vc1 va2 vn2 vc2 ta tc ca cc fs) (hbs : base ≤ w.heap.size) (hi : Iv N m) :
  Calls Tryz.prog 46 #[.pointer (some ⟨P, 0, none⟩), .int .u8 (c.toNat : Int)] w fun e w' => Mp w g P base (withinM m c) e w' := by
 have H := hide h
 obtain ⟨hcell, hfr⟩ := h.cells
 have c8 := hcell 8 _ rfl
 have f8 := hfr 8
 try dsimp only at c8
 have HB := hide hbs
 have HI := hide hi
 obtain ⟨R, hR⟩ : ∃ R, R = withinM m c := ⟨_, rfl⟩
 rw [← hR]
 unfold withinM at hR
 have HR := hide hR
 clear hcell hfr h hR hbs hi
 have u34 : ((c.toNat : Int) == 34) = false := by rw [beq_eq_false_iff_ne]; exact fun h => hc (UInt8.toNat_inj.1 (by show c.toNat = 34; omega))
 have u92 : ((c.toNat : Int) == 92) = false := by rw [beq_eq_false_iff_ne]; exact fun h => h92 (UInt8.toNat_inj.1 (by show c.toNat = 92; omega))
 have a32 : ¬ ((c.toNat : Int) < 32) := by omega
 have a128 : (c.toNat : Int) < 128 := by omega
 have HE : Hid (R = (0, { m with text := m.text ++ [c] })) := by show _ = _; rw [unhide HR, if_neg hc, if_neg h32, if_neg h92, if_pos h128]
 obtain ⟨u, hu⟩ : ∃ u, u = w.alloc (.cells #[.int .u8 (c.toNat : Int)] 5) := ⟨_, rfl⟩
 have HBU : Hid (Below w.heap.size w u) := by show Below _ _ _; rw [hu]; exact (Below.refl _ _).alloc (Nat.le_refl _) _
 have HLr : Hid (Row u (some ⟨w.heap.size, 0, none⟩) [c]) := by
  show Row _ _ _
  rw [hu]
  exact litR w _ [c] (0, 0) rfl
 have HOU : Hid (OwnB u base ta tc m.text) := (unhide H).tx.below (unhide HBU) (Nat.le_refl _)
 have HLn : Hid (m.text.length + [c].length ≤ 140737488355328) := by show _ ≤ _; have := (unhide HI).tx; simp; omega
 have HBb : Hid (base ≤ u.heap.size) := Nat.le_trans (unhide HB) (unhide HBU).size
 have HU := hide hu
 clear hu HR hc h32 h92 h128
 go_enter Tryz.func46, Tryz.ntmps46
 go_wp2_with (at_builtin; rw [← unhide HU]; refine wp_appL u rfl _ _ rfl base ta tc m.text rfl (unhide HOU) ⟨w.heap.size, 0, none⟩ 1 [c] 1 rfl rfl (by simp) (unhide HLr) (unhide HLn) (unhide HBb) ?_)
 intro G cap r w3 hr ho hg hat
 obtain ⟨w4, hw4⟩ : ∃ w4, w4 = w3.setCell ⟨P, 8, none⟩ (.slice (some ⟨G, 0, none⟩) r.length cap) := ⟨_, rfl⟩
 obtain ⟨k1, k2⟩ := (unhide H).app (unhide HBU) (unhide ho) (unhide hg) (unhide hat) hw4
 have hrow3 : w3.heap[P]? = some (mcO m la lc vk vn vt va1 vn1 vc1 va2 vn2 vc2 ta tc ca cc) := ((unhide hg).block P (Nat.lt_of_lt_of_le (unhide H).lt (unhide HBU).size) (fun e => (unhide H).ne.1 P e.symm rfl)).trans (((unhide HBU).block P (unhide H).lt).trans (unhide H).row)
 have f8' := frozen_of_row w3 P 8 _ _ hrow3
 have d8 := cell_of_row w3 P 8 _ _ _ hrow3
 simp only [List.getElem?_toArray, List.getElem?_cons_succ, List.getElem?_cons_zero] at d8
 have HF : Hid (Mp w g P base R (.returned (.int .i64 0)) w4) := by
  rw [show r = m.text ++ [c] from unhide hr] at k1
  refine ⟨tagB g G 3, by rw [unhide HE]; rfl, fun _ => ?_, k2.mono (fun t ht => by omega)⟩
  rw [unhide HE]
  exact k1.mb
 clear k1 k2 hrow3 ho hg hat hr HE HU HLr HOU HLn HBb HBU c8 f8
 go_wp2_with fail
 go_ret
 show Mp _ g P base R _ _
 rw [← hw4]
 exact unhide HF
set_option maxHeartbeats 16000000 in
theorem rwi_char (base N : Nat) (hN : N ≤ 1000000) (c : UInt8) (hc : c ≠ 34) (h32 : ¬ c.toNat < 32) (h92 : c ≠ 92) (h128 : ¬ c.toNat < 128) {w : World} {g : Nat → Nat} {P : Nat} {m : Mc} {la : Option Addr} {lc : Nat} {vk vn : Int} {vt : List UInt8} {va1 : Option Addr} {vn1 vc1 : Nat} {va2 : Option Addr} {vn2 vc2 : Nat} {ta : Option Addr} {tc : Nat} {ca : Option Addr} {cc : Nat} {fs : List Value}
  (h : MS w g P base m la lc vk vn vt va1 vn1 vc1 va2 vn2 vc2 ta tc ca cc fs) (hbs : base ≤ w.heap.size) (hi : Iv N m) :
  Calls Tryz.prog 46 #[.pointer (some ⟨P, 0, none⟩), .int .u8 (c.toNat : Int)] w fun e w' => Mp w g P base (withinM m c) e w' := by
 have H := hide h
 obtain ⟨hcell, hfr⟩ := h.cells
 have c10 := hcell 10 _ rfl
 have f10 := hfr 10
 try dsimp only at c10
 have HB := hide hbs
 have HI := hide hi
 obtain ⟨R, hR⟩ : ∃ R, R = withinM m c := ⟨_, rfl⟩
 rw [← hR]
 unfold withinM at hR
 have HR := hide hR
 clear hcell hfr h hR hbs hi
 have u34 : ((c.toNat : Int) == 34) = false := by rw [beq_eq_false_iff_ne]; exact fun h => hc (UInt8.toNat_inj.1 (by show c.toNat = 34; omega))
 have u92 : ((c.toNat : Int) == 92) = false := by rw [beq_eq_false_iff_ne]; exact fun h => h92 (UInt8.toNat_inj.1 (by show c.toNat = 92; omega))
 have a32 : ¬ ((c.toNat : Int) < 32) := by omega
 have a128 : ¬ ((c.toNat : Int) < 128) := by omega
 have HE : Hid (R = partM { m with char := [] } c) := by show _ = _; rw [unhide HR, if_neg hc, if_neg h32, if_neg h92, if_neg h128]
 obtain ⟨w2, hw2⟩ : ∃ w2, w2 = w.setCell ⟨P, 10, none⟩ (.slice none 0 0) := ⟨_, rfl⟩
 have mv : Mv w w2 P := by rw [hw2]; exact Mv.set _ _ _ _
 have K2 := Kq.ofMv mv (unhide H).tP
 have h2 : MS w2 g P base { m with char := [] } la lc vk vn vt va1 vn1 vc1 va2 vn2 vc2 ta tc none 0 fs := (unhide H).re (m' := { m with char := [] }) (K2.mono (fun t ht => ht.1)) rfl (by rw [hw2]; exact heap_setCell_same _ _ _ _ _ _ (unhide H).row) (jv_kq K2 (by omega) (unhide H).jv) (owns_same (unhide H).tx (fun k hk => (K2.tag k (owns_lt (unhide H).tx k hk).2 (by rw [(unhide H).tt k hk]; omega)).2)) (OwnB.nil _ _) (unhide H).tP (unhide H).tt (fun k hk => by simp [blk] at hk)
 have HPt := hide (rpart_any c h2 (by have := (unhide HI).tx; show m.text.length ≤ _; omega) (Nat.zero_le _) (Nat.le_trans (unhide HB) mv.size))
 have HK2 : Hid (Kq w w2 g g (· = 5)) := K2.mono (fun t ht => by omega)
 generalize partM { m with char := [] } c = DM at HPt HE
 clear HR hc h32 h92 h128 mv K2 h2
 go_enter Tryz.func46, Tryz.ntmps46
 go_upto_region 2 with fail
 rw [← hw2]
 clear hw2 c10 f10
 go_wp2_with fail
 refine (unhide HPt).mono ?_
 rintro e w3 ⟨g3, rfl, m3, k3⟩
 have HM3 := hide m3
 have HK3 := hide k3
 clear m3 k3 HPt
 go_wp2_with fail
 go_ret
 show Mp _ g P base R _ _
 rw [unhide HE]
 exact ⟨g3, rfl, unhide HM3, (unhide HK2).trans (unhide HK3)⟩
set_option maxHeartbeats 16000000 in
theorem rwi_key (base N : Nat) (hN : N ≤ 1000000) (c : UInt8) (hc : c = 34) {w : World} {g : Nat → Nat} {P : Nat} {m : Mc} {la : Option Addr} {lc : Nat} {vk vn : Int} {vt : List UInt8} {va1 : Option Addr} {vn1 vc1 : Nat} {va2 : Option Addr} {vn2 vc2 : Nat} {ta : Option Addr} {tc : Nat} {ca : Option Addr} {cc : Nat} {fs : List Value}
  (h : MS w g P base m la lc vk vn vt va1 vn1 vc1 va2 vn2 vc2 ta tc ca cc fs) (hbs : base ≤ w.heap.size) (hi : Iv N m) (hk : m.isKey = true) (hl : m.l ≠ []) :
  Calls Tryz.prog 46 #[.pointer (some ⟨P, 0, none⟩), .int .u8 (c.toNat : Int)] w fun e w' => Mp w g P base (withinM m c) e w' := by
 have H := hide h
 obtain ⟨l0, o, hlo⟩ : ∃ l0 o, m.l = l0 ++ [o] := ⟨m.l.dropLast, m.l.getLast hl, (List.dropLast_concat_getLast hl).symm⟩
 obtain ⟨T, hT⟩ : ∃ T, T = m.l.length := ⟨_, rfl⟩
 obtain ⟨i, hi'⟩ : ∃ i, i = l0.length := ⟨_, rfl⟩
 have hTi : T = i + 1 := by rw [hT, hlo, hi']; simp
 obtain ⟨L, rfl⟩ : ∃ L, la = some ⟨L, 0, none⟩ := by
  rcases owns_cases h.lo with ⟨_, _, h3, _⟩ | ⟨gg, _, h3, _⟩
  ·have : T = 0 := by rw [hT]; exact h3
   omega
  ·exact ⟨gg, h3⟩
 obtain ⟨a1, e1, a2, e2, xs, q0, q1, q2, q3, q4, q5, hT0, hJ0, t1, t2, hE0⟩ := h.el i o (by rw [hlo, hi']; simp)
 try dsimp only at q0 q1 q2 q3 q4 q5
 have HQ := hide (And.intro q0 (And.intro q1 (And.intro q2 (And.intro q3 (And.intro q4 q5)))))
 have HTT := hide (And.intro hT0 (And.intro hJ0 (And.intro t1 (And.intro t2 hE0))))
 have HFL : Hid (fs.length = T * 6) := by show _ = _; rw [hT]; exact h.lo.1
 have hLP : L ≠ P := h.ne.2.2 L rfl
 obtain ⟨hcell, hfr⟩ := h.cells
 have d1 := hcell 1 _ rfl
 try dsimp only at d1
 rw [← hT] at d1
 have c9 := hcell 9 _ rfl
 try dsimp only at c9
 rw [hk] at c9
 have z2 : IntKind.i64.wrap ((T : Int) - 1) = (i : Int) := by have := hi.l16; simp [IntKind.wrap, IntKind.bits, IntKind.signed]; omega
 have z3 : (T : Int) - 1 = (i : Int) := by omega
 have hi16 : i ≤ 16 := by have := hi.l16; omega
 have z4 : IntKind.i64.wrap (i : Int) = (i : Int) := by simp [IntKind.wrap, IntKind.bits, IntKind.signed]; omega
 have hiT : (i : Int) < (T : Int) := by omega
 have hi0 : (0 : Int) ≤ (i : Int) := by omega
 have hoN := (hi.ns o (by rw [hlo]; simp)).1
 obtain ⟨M, hM⟩ : ∃ M, M = o.ns.length := ⟨_, rfl⟩
 have hm9 : M ≤ 1000000 := by omega
 have HM := hide hM
 obtain ⟨R, hR⟩ : ∃ R, R = withinM m c := ⟨_, rfl⟩
 rw [← hR]
 unfold withinM at hR
 rw [if_pos hc, if_neg (by rw [hk]; decide), show topO m.l = o by rw [hlo]; exact topO_last _ _] at hR
 have HR : Hid (R = if m.text ∈ o.ns then (43, m) else (0, { m with l := l0 ++ [{ o with nm := m.text }], st := 4 })) := by
  show _ = _
  rw [hR, hlo, upd_last]
 have u34 : ((c.toNat : Int) == 34) = true := by rw [hc]; rfl
 have HLO := hide hlo
 have HT := hide hT
 have HI2 := hide hi'
 have HTI := hide hTi
 clear hc hk hl hR h q0 q1 q2 q3 q4 q5 hT0 hJ0 t1 t2 hE0 hcell hfr hlo hT hi' hTi hbs hoN hi hM
 go_enter Tryz.func46, Tryz.ntmps46
 go_upto_region 7 with fail
 go_quiet (fail)
 go_upto_region 8 with fail
 generalize hy : w.drewN nq = y
 have bY : Below w.heap.size w y := by rw [← hy]; exact bdr4 (Below.refl _ _) nq
 clear hy d1 z2 z3 z4 c9
 have h1y := (unhide H).below bY
 have HKY : Hid (Kq w y g g (fun _ => True)) := Kq.ofB bY
 have kc : (convert 50 9 (.slice ta m.text.length tc)).run Tryz.prog y = .ok (.string (str m.text)) y := run_str _ _ _ _ _ h1y.tx.toBs.row rfl
 obtain ⟨hcell, hfr⟩ := h1y.cells
 have c0 := hcell 0 _ rfl
 have f0 := hfr 0
 have c8 := hcell 8 _ rfl
 try dsimp only at c0 c8
 have x3 := (owns_cell h1y.lo (i * 6 + 3) _ (unhide HQ).2.2.2.1).1
 obtain ⟨x5, y5⟩ := owns_cell h1y.lo (i * 6 + 5) _ (unhide HQ).2.2.2.2.2
 rw [← unhide HM] at x3
 have hTy : OwnT y base a1 e1 o.ns := owns_same (unhide HTT).1 (fun k hk => bY.block k (owns_lt (unhide HTT).1 k hk).2)
 have HN := hide (hTy.nsf (S := fun _ => True) (fun _ _ => trivial))
 have HY := hide h1y
 have HBY := hide bY
 clear h1y hcell hfr hTy bY
 go_upto_region 9 with fail
 go_loop [47] (fun v => ∃ q : Nat, q ≤ M ∧ v = .int .i64 (q : Int) ∧ Hid (∀ k, k < q → o.ns[k]? ≠ some m.text)) (fun v => M - (intOf v).toNat)
 case atStart => exact ⟨0, Nat.zero_le _, rfl, fun k hk => absurd hk (Nat.not_lt_zero k)⟩
 case round =>
  obtain ⟨q, hq, rfl, HQQ⟩ := hrel
  by_cases hlt : q < M
  ·have hlt' : (q : Int) < (M : Int) := by omega
   obtain ⟨s, hs⟩ : ∃ s, o.ns[q]? = some s := ⟨_, List.getElem?_eq_getElem (by rw [← unhide HM]; exact hlt)⟩
   obtain ⟨B, ob, rfl, hSB, hBc⟩ := (unhide HN) (fun e => by rw [e] at hs; simp at hs)
   have z1 := hBc q s hs
   by_cases e : s = m.text
   ·have e3 : ((str s).toList == (str m.text).toList) = true := by rw [e]; simp
    have HE : Hid (R = (43, m)) := by show _ = _; rw [unhide HR, if_pos (by rw [← e]; exact List.mem_of_getElem? hs)]
    clear hBc hs hSB e
    go_wp2
    go_ret
    show Mp _ g P base R _ _
    rw [unhide HE]
    exact ⟨g, rfl, fun (e : 43 = 0) => absurd e (by decide), Kq.ofB (unhide HBY)⟩
   ·have e3 : ((str s).toList == (str m.text).toList) = false := by rw [toList_str, toList_str]; simpa using e
    have HQ1 : Hid (∀ k, k < q + 1 → o.ns[k]? ≠ some m.text) := fun k hk => by
     by_cases ek : k = q
     ·subst ek; rw [hs]; exact fun h => e (Option.some.inj h)
     ·exact unhide HQQ k (by omega)
    clear hBc hs hSB e HQQ
    go_wp2
    go_round
    case rel => exact ⟨q + 1, by omega, by go_num, HQ1⟩
    case measure => simp [intOf]; omega
  ·have hlt' : ¬ (q : Int) < (M : Int) := by omega
   have HE : Hid (R = (0, { m with l := l0 ++ [{ o with nm := m.text }], st := 4 })) := by
    show _ = _
    rw [unhide HR, if_neg (fun hm => ?_)]
    obtain ⟨k, hk⟩ := List.mem_iff_getElem?.1 hm
    have := (List.getElem?_eq_some_iff.1 hk).1
    exact unhide HQQ k (by have := unhide HM; omega) hk
   have HF : Hid (∀ w', w' = (y.setCell ⟨L, i * 6 + 5, none⟩ (.string (str m.text))).setCell ⟨P, 0, none⟩ (.int .i64 4) → Mp w g P base R (.returned (.int .i64 0)) w') := fun w' e => by
    obtain ⟨z, hz⟩ : ∃ z, z = y.setCell ⟨L, i * 6 + 5, none⟩ (.string (str m.text)) := ⟨_, rfl⟩
    have mz : Mv y z L := by rw [hz]; exact Mv.set _ _ _ _
    have kz : Kq y z g g (fun t => t ≠ 2) := Kq.ofMv mz ((unhide HY).tl L rfl)
    have eT := unhide HT
    have eI := unhide HI2
    have eF := unhide HFL
    have hlen : i * 6 + 5 < fs.length := by have := unhide HTI; omega
    have hlo' : z.ownsRow base 112 6 (.slice (some ⟨L, 0, none⟩) m.l.length lc) m.l.length (fs.set (i * 6 + 5) (.string (str m.text))) := by rw [hz]; exact owns_set (unhide HY).lo _ _ hlen
    obtain ⟨q0, q1, q2, q3, q4, q5⟩ := unhide HQ
    obtain ⟨hT0, hJ0, t1, t2, hE0⟩ := unhide HTT
    have kk := (unhide HKY).mono (T' := fun t => t ≠ 2) (fun _ _ => trivial)
    have kwz := kk.trans kz
    have hop : OpX z g base l0.length { o with nm := m.text } (fun r => (fs.set (i * 6 + 5) (.string (str m.text)))[l0.length * 6 + r]?) := by
     rw [← eI]
     refine ⟨a1, e1, a2, e2, xs, ?_, ?_, ?_, ?_, ?_, ?_, ?_, ?_, t1, t2, ?_⟩
     ·show (fs.set _ _)[i * 6 + 0]? = _
      rw [List.getElem?_set_ne (by omega)]; exact q0
     ·show (fs.set _ _)[i * 6 + 1]? = _
      rw [List.getElem?_set_ne (by omega)]; exact q1
     ·show (fs.set _ _)[i * 6 + 2]? = _
      rw [List.getElem?_set_ne (by omega)]; exact q2
     ·show (fs.set _ _)[i * 6 + 3]? = _
      rw [List.getElem?_set_ne (by omega)]; exact q3
     ·show (fs.set _ _)[i * 6 + 4]? = _
      rw [List.getElem?_set_ne (by omega)]; exact q4
     ·show (fs.set _ _)[i * 6 + 5]? = _
      rw [List.getElem?_set_self hlen]
     ·exact owns_same hT0 (fun k hk => (kwz.tag k (owns_lt hT0 k hk).2 (by rw [t1 k hk]; omega)).2)
     ·exact owns_same hJ0 (fun k hk => (kwz.tag k (owns_lt hJ0 k hk).2 (by rw [t2 k hk]; omega)).2)
     ·intro q j hj
      obtain ⟨v, p1, p2⟩ := hE0 q j hj
      exact ⟨v, p1, jv_kq kwz (by omega) p2⟩
    have hz2 := (unhide HY).top (unhide HLO) (o' := { o with nm := m.text }) (kz.mono (fun t ht => ht.1)) hlo' (fun r hr => List.getElem?_set_ne (by omega)) hop (unhide HY).tl
    have mv : Mv z w' P := by rw [e, ← hz]; exact Mv.set _ _ _ _
    have := hz2.mv (m' := { m with l := l0 ++ [{ o with nm := m.text }], st := 4 }) mv rfl rfl rfl rfl (by rw [e, ← hz]; exact heap_setCell_same _ _ _ _ _ _ hz2.row)
    rw [unhide HE]
    exact ⟨g, rfl, fun _ => this.mb, (kwz.mono (fun t ht => by omega)).trans ((Kq.ofMv mv hz2.tP).mono (fun t ht => by omega))⟩
   clear HE HR HQQ HN HQ HTT HFL HY HBY HKY x3
   go_wp2_with fail
   go_ret
   show Mp _ g P base R _ _
   exact unhide HF _ rfl
/-- within. -/
theorem rwithin_any (base N : Nat) (hN : N ≤ 1000000) (c : UInt8) {w : World} {g : Nat → Nat} {P : Nat} {m : Mc} {la : Option Addr} {lc : Nat} {vk vn : Int} {vt : List UInt8} {va1 : Option Addr} {vn1 vc1 : Nat} {va2 : Option Addr} {vn2 vc2 : Nat} {ta : Option Addr} {tc : Nat} {ca : Option Addr} {cc : Nat} {fs : List Value}
  (h : MS w g P base m la lc vk vn vt va1 vn1 vc1 va2 vn2 vc2 ta tc ca cc fs) (hbs : base ≤ w.heap.size) (hi : Iv N m) (hst : m.st = 9) :
  Calls Tryz.prog 46 #[.pointer (some ⟨P, 0, none⟩), .int .u8 (c.toNat : Int)] w fun e w' => Mp w g P base (withinM m c) e w' := by
 by_cases h34 : c = 34
 ·cases hk : m.isKey with
  | false => exact rwi_done base N hN c h34 h hbs hi hk
  | true => exact rwi_key base N hN c h34 h hbs hi hk (hi.key (.inl hst) hk)
 by_cases h32 : c.toNat < 32
 ·exact rwi_low base N hN c h34 h32 h hbs hi
 by_cases h92 : c = 92
 ·exact rwi_esc base N hN c h92 h hbs hi
 by_cases h128 : c.toNat < 128
 ·exact rwi_byte base N hN c h34 h32 h92 h128 h hbs hi
 ·exact rwi_char base N hN c h34 h32 h92 h128 h hbs hi
#print axioms rwithin_any
end Go.Proofs.YtbnbngmnoffmkaaGreatDoor
end
section
set_option linter.unusedVariables false
set_option maxRecDepth 1000000
namespace Go.Proofs.YtbnbngmnoffmkaaGreatDoor
open Go.RowKit

theorem Mq.mp {w w' : World} {g : Nat → Nat} {P base : Nat} {m : Mc} {e : Ending} (h : Mq w g P base m e w') : Mp w g P base (0, m) (.returned (.int .i64 0)) w' := by
 obtain ⟨g', _, h1, h2⟩ := h
 exact ⟨g', rfl, fun _ => h1, h2⟩
set_option maxHeartbeats 4000000 in
theorem rescaped_any (c : UInt8) {w : World} {g : Nat → Nat} {P base : Nat} {m : Mc} {la : Option Addr} {lc : Nat} {vk vn : Int} {vt : List UInt8} {va1 : Option Addr} {vn1 vc1 : Nat} {va2 : Option Addr} {vn2 vc2 : Nat} {ta : Option Addr} {tc : Nat} {ca : Option Addr} {cc : Nat} {fs : List Value}
  (h : MS w g P base m la lc vk vn vt va1 vn1 vc1 va2 vn2 vc2 ta tc ca cc fs) (hl : m.text.length ≤ 100000000) (hbs : base ≤ w.heap.size) :
  Calls Tryz.prog 47 #[.pointer (some ⟨P, 0, none⟩), .int .u8 (c.toNat : Int)] w fun e w' => Mp w g P base (escapedM m c) e w' := by
 have HP : Hid (∀ n : Nat, n ≤ 1114111 → Calls Tryz.prog 78 #[.pointer (some ⟨P, 0, none⟩), .int .i64 (n : Int)] w fun e w' => Mq w g P base (putM m n) e w') := fun n hn => rput_any n hn h hl hbs
 obtain ⟨hcell, hfr⟩ := h.cells
 have c0 := hcell 0 _ rfl
 have c11 := hcell 11 _ rfl
 have c12 := hcell 12 _ rfl
 have c13 := hcell 13 _ rfl
 have f0 := hfr 0
 have f11 := hfr 11
 have f12 := hfr 12
 have f13 := hfr 13
 have HH := hide h
 obtain ⟨R, hR⟩ : ∃ R, R = escapedM m c := ⟨_, rfl⟩
 rw [← hR]
 have HR := hide hR
 obtain ⟨cn, hcn⟩ : ∃ cn : Int, cn = (c.toNat : Int) := ⟨_, rfl⟩
 rw [← hcn]
 clear h hcell hfr hR
 by_cases h34 : c = 34
 ·subst h34
  obtain rfl : cn = 34 := hcn
  have HE : Hid (R = (0, putM m 34)) := by show _ = _; rw [unhide HR]; rfl
  have HC := unhide HP 34 (by omega)
  simp only [show (((34 : Nat) : Nat) : Int) = 34 from rfl] at HC
  have HC := hide HC
  clear HP HR c0 c11 c12 c13 f0 f11 f12 f13 HH
  go_enter Tryz.func47, Tryz.ntmps47
  go_wp2_with fail
  refine (unhide HC).mono ?_
  rintro e w' hq
  have HF := hide hq.mp
  obtain ⟨g', rfl, _, _⟩ := hq
  clear HC
  go_wp2_with fail
  go_ret
  rw [unhide HE]
  exact HF
 by_cases h92 : c = 92
 ·subst h92
  obtain rfl : cn = 92 := hcn
  have HE : Hid (R = (0, putM m 92)) := by show _ = _; rw [unhide HR]; rfl
  have HC := unhide HP 92 (by omega)
  simp only [show (((92 : Nat) : Nat) : Int) = 92 from rfl] at HC
  have HC := hide HC
  clear HP HR c0 c11 c12 c13 f0 f11 f12 f13 HH
  go_enter Tryz.func47, Tryz.ntmps47
  go_wp2_with fail
  refine (unhide HC).mono ?_
  rintro e w' hq
  have HF := hide hq.mp
  obtain ⟨g', rfl, _, _⟩ := hq
  clear HC
  go_wp2_with fail
  go_ret
  rw [unhide HE]
  exact HF
 by_cases h47 : c = 47
 ·subst h47
  obtain rfl : cn = 47 := hcn
  have HE : Hid (R = (0, putM m 47)) := by show _ = _; rw [unhide HR]; rfl
  have HC := unhide HP 47 (by omega)
  simp only [show (((47 : Nat) : Nat) : Int) = 47 from rfl] at HC
  have HC := hide HC
  clear HP HR c0 c11 c12 c13 f0 f11 f12 f13 HH
  go_enter Tryz.func47, Tryz.ntmps47
  go_wp2_with fail
  refine (unhide HC).mono ?_
  rintro e w' hq
  have HF := hide hq.mp
  obtain ⟨g', rfl, _, _⟩ := hq
  clear HC
  go_wp2_with fail
  go_ret
  rw [unhide HE]
  exact HF
 by_cases h98 : c = 98
 ·subst h98
  obtain rfl : cn = 98 := hcn
  have HE : Hid (R = (0, putM m 8)) := by show _ = _; rw [unhide HR]; rfl
  have HC := unhide HP 8 (by omega)
  simp only [show (((8 : Nat) : Nat) : Int) = 8 from rfl] at HC
  have HC := hide HC
  clear HP HR c0 c11 c12 c13 f0 f11 f12 f13 HH
  go_enter Tryz.func47, Tryz.ntmps47
  go_wp2_with fail
  refine (unhide HC).mono ?_
  rintro e w' hq
  have HF := hide hq.mp
  obtain ⟨g', rfl, _, _⟩ := hq
  clear HC
  go_wp2_with fail
  go_ret
  rw [unhide HE]
  exact HF
 by_cases h102 : c = 102
 ·subst h102
  obtain rfl : cn = 102 := hcn
  have HE : Hid (R = (0, putM m 12)) := by show _ = _; rw [unhide HR]; rfl
  have HC := unhide HP 12 (by omega)
  simp only [show (((12 : Nat) : Nat) : Int) = 12 from rfl] at HC
  have HC := hide HC
  clear HP HR c0 c11 c12 c13 f0 f11 f12 f13 HH
  go_enter Tryz.func47, Tryz.ntmps47
  go_wp2_with fail
  refine (unhide HC).mono ?_
  rintro e w' hq
  have HF := hide hq.mp
  obtain ⟨g', rfl, _, _⟩ := hq
  clear HC
  go_wp2_with fail
  go_ret
  rw [unhide HE]
  exact HF
 by_cases h110 : c = 110
 ·subst h110
  obtain rfl : cn = 110 := hcn
  have HE : Hid (R = (0, putM m 10)) := by show _ = _; rw [unhide HR]; rfl
  have HC := unhide HP 10 (by omega)
  simp only [show (((10 : Nat) : Nat) : Int) = 10 from rfl] at HC
  have HC := hide HC
  clear HP HR c0 c11 c12 c13 f0 f11 f12 f13 HH
  go_enter Tryz.func47, Tryz.ntmps47
  go_wp2_with fail
  refine (unhide HC).mono ?_
  rintro e w' hq
  have HF := hide hq.mp
  obtain ⟨g', rfl, _, _⟩ := hq
  clear HC
  go_wp2_with fail
  go_ret
  rw [unhide HE]
  exact HF
 by_cases h114 : c = 114
 ·subst h114
  obtain rfl : cn = 114 := hcn
  have HE : Hid (R = (0, putM m 13)) := by show _ = _; rw [unhide HR]; rfl
  have HC := unhide HP 13 (by omega)
  simp only [show (((13 : Nat) : Nat) : Int) = 13 from rfl] at HC
  have HC := hide HC
  clear HP HR c0 c11 c12 c13 f0 f11 f12 f13 HH
  go_enter Tryz.func47, Tryz.ntmps47
  go_wp2_with fail
  refine (unhide HC).mono ?_
  rintro e w' hq
  have HF := hide hq.mp
  obtain ⟨g', rfl, _, _⟩ := hq
  clear HC
  go_wp2_with fail
  go_ret
  rw [unhide HE]
  exact HF
 by_cases h116 : c = 116
 ·subst h116
  obtain rfl : cn = 116 := hcn
  have HE : Hid (R = (0, putM m 9)) := by show _ = _; rw [unhide HR]; rfl
  have HC := unhide HP 9 (by omega)
  simp only [show (((9 : Nat) : Nat) : Int) = 9 from rfl] at HC
  have HC := hide HC
  clear HP HR c0 c11 c12 c13 f0 f11 f12 f13 HH
  go_enter Tryz.func47, Tryz.ntmps47
  go_wp2_with fail
  refine (unhide HC).mono ?_
  rintro e w' hq
  have HF := hide hq.mp
  obtain ⟨g', rfl, _, _⟩ := hq
  clear HC
  go_wp2_with fail
  go_ret
  rw [unhide HE]
  exact HF
 have key : ∀ n : UInt8, c ≠ n → (cn == (n.toNat : Int)) = false := fun n hn => by
  rw [hcn]; simp only [beq_eq_false_iff_ne, ne_eq]; exact fun e => hn (UInt8.toNat_inj.1 (by omega))
 have k34 : (cn == 34) = false := key 34 h34
 have k92 : (cn == 92) = false := key 92 h92
 have k47 : (cn == 47) = false := key 47 h47
 have k98 : (cn == 98) = false := key 98 h98
 have k102 : (cn == 102) = false := key 102 h102
 have k110 : (cn == 110) = false := key 110 h110
 have k114 : (cn == 114) = false := key 114 h114
 have k116 : (cn == 116) = false := key 116 h116
 by_cases h117 : c = 117
 ·have k117 : (cn == 117) = true := by rw [hcn, h117]; rfl
  have HE : Hid (R = (0, { m with st := 11, n := 0, many := 0, high := 0 })) := by show _ = _; rw [unhide HR, h117]; rfl
  have HF : Hid (∀ w', w' = (((w.setCell ⟨P, 0, none⟩ (.int .i64 11)).setCell ⟨P, 11, none⟩ (.int .i64 0)).setCell ⟨P, 12, none⟩ (.int .i64 0)).setCell ⟨P, 13, none⟩ (.int .i64 0) → Mp w g P base R (.returned (.int .i64 0)) w') := fun w' e => by
   rw [unhide HE]
   refine (unhide HH).fin0 (m' := { m with st := 11, n := 0, many := 0, high := 0 }) ?_ rfl rfl rfl rfl ?_
   ·rw [e]; exact (((Mv.set _ _ _ _).trans (Mv.set _ _ _ _)).trans (Mv.set _ _ _ _)).trans (Mv.set _ _ _ _)
   ·rw [e]; exact heap_setCell_same _ _ _ _ _ _ (heap_setCell_same _ _ _ _ _ _ (heap_setCell_same _ _ _ _ _ _ (heap_setCell_same _ _ _ _ _ _ (unhide HH).row)))
  clear HP HR HE HH key hcn h117 h34 h92 h47 h98 h102 h110 h114 h116
  go_enter Tryz.func47, Tryz.ntmps47
  go_wp2_with fail
  go_ret
  exact unhide HF _ rfl
 ·have k117 : (cn == 117) = false := key 117 h117
  have HE : Hid (R = (40, m)) := by
   show _ = _
   rw [unhide HR]
   unfold escapedM escV
   rw [if_neg h34, if_neg h92, if_neg h47, if_neg h98, if_neg h102, if_neg h110, if_neg h114, if_neg h116]
   simp [h117]
  have HF : Hid (Mp w g P base R (.returned (.int .i64 40)) w) := by show Mp _ _ _ _ _ _ _; rw [unhide HE]; exact (unhide HH).fail 40 (by omega) m
  clear HP HR HE HH key hcn h117 h34 h92 h47 h98 h102 h110 h114 h116 c0 c11 c12 c13 f0 f11 f12 f13
  go_enter Tryz.func47, Tryz.ntmps47
  go_wp2_with fail
  go_ret
  exact HF
#print axioms rescaped_any
end Go.Proofs.YtbnbngmnoffmkaaGreatDoor
end
section
set_option linter.unusedVariables false
set_option maxRecDepth 1000000
namespace Go.Proofs.YtbnbngmnoffmkaaGreatDoor
open Go.RowKit

set_option maxHeartbeats 8000000 in
theorem rdigitOf_any (N : Nat) (c : UInt8) {w : World} {g : Nat → Nat} {P base : Nat} {m : Mc} {la : Option Addr} {lc : Nat} {vk vn : Int} {vt : List UInt8} {va1 : Option Addr} {vn1 vc1 : Nat} {va2 : Option Addr} {vn2 vc2 : Nat} {ta : Option Addr} {tc : Nat} {ca : Option Addr} {cc : Nat} {fs : List Value}
  (h : MS w g P base m la lc vk vn vt va1 vn1 vc1 va2 vn2 vc2 ta tc ca cc fs) (hi : Iv N m) (hst : m.st = 11) (hl : m.text.length ≤ 100000000) (hbs : base ≤ w.heap.size) :
  Calls Tryz.prog 48 #[.pointer (some ⟨P, 0, none⟩), .int .u8 (c.toNat : Int)] w fun e w' => Mp w g P base (digitOfM m c) e w' := by
 have HX := hide (rhex_any c w)
 obtain ⟨hcell, hfr⟩ := h.cells
 have c0 := hcell 0 _ rfl
 have c11 := hcell 11 _ rfl
 have c12 := hcell 12 _ rfl
 have c13 := hcell 13 _ rfl
 have f0 := hfr 0
 have f11 := hfr 11
 have f12 := hfr 12
 have f13 := hfr 13
 have HH := hide h
 obtain ⟨R, hR⟩ : ∃ R, R = digitOfM m c := ⟨_, rfl⟩
 rw [← hR]
 unfold digitOfM at hR
 obtain ⟨hm3, hn16⟩ := hi.hex hst
 have hhi := hi.high
 have hxi3 := (hi.hxi hst).2.2.2
 cases hx : hxB c with
 | none =>
  rw [hx] at hR
  have HF : Hid (Mp w g P base R (.returned (.int .i64 40)) w) := by show Mp _ _ _ _ _ _ _; rw [hR]; exact (unhide HH).fail 40 (by omega) m
  have ex : hxI c = -1 := by unfold hxI; rw [hx]
  rw [ex] at HX
  clear h hcell hfr hR hx ex hi hm3 hn16 hhi hxi3
  go_enter Tryz.func48, Tryz.ntmps48
  go_wp2_with fail
  refine (unhide HX).mono ?_
  rintro e w1 ⟨rfl, rfl⟩
  clear HX
  go_wp2_with fail
  go_ret
  exact HF
 | some x =>
  rw [hx] at hR
  dsimp only at hR
  have hx16 := hxB_lt c x hx
  have ex : hxI c = (x : Int) := by unfold hxI; rw [hx]
  rw [ex] at HX
  obtain ⟨n, hn⟩ : ∃ n, n = m.n := ⟨_, rfl⟩
  obtain ⟨my, hmy⟩ : ∃ my, my = m.many := ⟨_, rfl⟩
  rw [← hn] at c11
  rw [← hmy] at c12
  rw [← hn, ← hmy] at hR
  rw [← hmy] at hm3
  rw [← hn, ← hmy] at hn16 hxi3
  have x0 : ¬ (x : Int) < 0 := by omega
  have hnB : n ≤ 4095 := by
   have : my = 0 ∨ my = 1 ∨ my = 2 ∨ my = 3 := by omega
   rcases this with e | e | e | e <;> rw [e] at hn16 <;> omega
  have HNM : Hid (n = m.n ∧ my = m.many) := ⟨hn, hmy⟩
  have HBS := hide hbs
  obtain ⟨n2, hn2⟩ : ∃ n2, n2 = 16 * n + x := ⟨_, rfl⟩
  have eN : 16 * (n : Int) + (x : Int) = (n2 : Int) := by omega
  have hn2B : n2 ≤ 65535 := by omega
  have HEN := hide eN
  clear eN
  have HMS2 : Hid (∀ k : Int, k = (my : Int) + 1 → ∀ w', w' = (w.setCell ⟨P, 11, none⟩ (.int .i64 (n2 : Int))).setCell ⟨P, 12, none⟩ (.int .i64 k) → MS w' g P base { m with n := n2, many := my + 1 } la lc vk vn vt va1 vn1 vc1 va2 vn2 vc2 ta tc ca cc fs ∧ Mv w w' P) := fun k hk w' e => by
   have mv : Mv w w' P := by rw [e]; exact (Mv.set _ _ _ _).trans (Mv.set _ _ _ _)
   refine ⟨(unhide HH).mv (m' := { m with n := n2, many := my + 1 }) mv rfl rfl rfl rfl ?_, mv⟩
   rw [show k = ((my + 1 : Nat) : Int) by omega] at e
   rw [e]
   exact heap_setCell_same _ _ _ _ _ _ (heap_setCell_same _ _ _ _ _ _ (unhide HH).row)
  have HSIM : Hid (R = (0, { m with n := n2, many := my + 1 }) → ∀ k : Int, k = (my : Int) + 1 → ∀ w', w' = (w.setCell ⟨P, 11, none⟩ (.int .i64 (n2 : Int))).setCell ⟨P, 12, none⟩ (.int .i64 k) → Mp w g P base R (.returned (.int .i64 0)) w') := fun e k hk w' e2 => by
   obtain ⟨k1, k2⟩ := unhide HMS2 k hk w' e2
   rw [e]
   exact ⟨g, rfl, fun _ => k1.mb, (Kq.ofMv k2 (unhide HH).tP).mono (fun t ht => by omega)⟩
  have HREJ : Hid (R = (40, m) → Mp w g P base R (.returned (.int .i64 40)) w) := fun e => by rw [e]; exact (unhide HH).fail 40 (by omega) m
  rw [← hn2] at hR
  have HR := hide hR
  clear h hcell hfr hR hx ex hi hn hmy hn16 hbs hst
  obtain ⟨bad, hbad⟩ : ∃ bad : Bool, bad = decide ((0 < m.high ∧ my = 0 ∧ x ≠ 13) ∨ (my = 1 ∧ n = 13 ∧ decide (12 ≤ x) ≠ decide (0 < m.high))) := ⟨_, rfl⟩
  have HBAD := hide hbad
  clear hbad
  go_enter Tryz.func48, Tryz.ntmps48
  go_wp2_with fail
  refine (unhide HX).mono ?_
  rintro e w1 ⟨rfl, rfl⟩
  clear HX
  go_upto_region 2 with fail
  go_cut [51] from 8 to 51 (fun s wx => s = .bool bad ∧ w1 = wx)
  case first =>
   clear HR HREJ HSIM HMS2 HH HNM HBS hxi3 hhi f0 f11 f12 f13 c0 hl
   have my4 : my = 0 ∨ my = 1 ∨ my = 2 ∨ my = 3 := by omega
   rcases my4 with rfl | rfl | rfl | rfl
   ·simp only [show ((0 : Nat) : Int) = 0 from rfl] at c12
    by_cases hh : 0 < m.high
    ·have hh' : (0 : Int) < (m.high : Int) := by omega
     by_cases h13 : x = 13
     ·have k13 : ((x : Int) != 13) = false := by simp [h13]
      obtain rfl : bad = false := by rw [unhide HBAD]; exact decide_eq_false (by omega)
      clear HBAD h13
      go_wp2_with fail
      go_meet
      exact ⟨rfl, rfl⟩
     ·have k13 : ((x : Int) != 13) = true := by simp; omega
      obtain rfl : bad = true := by rw [unhide HBAD]; exact decide_eq_true (by omega)
      clear HBAD 
      go_wp2_with fail
      go_meet
      exact ⟨rfl, rfl⟩
    ·have hh' : ¬ (0 : Int) < (m.high : Int) := by omega
     obtain rfl : bad = false := by rw [unhide HBAD]; exact decide_eq_false (by omega)
     clear HBAD 
     go_wp2_with fail
     go_meet
     exact ⟨rfl, rfl⟩
   ·simp only [show ((1 : Nat) : Int) = 1 from rfl] at c12
    by_cases h13 : n = 13
    ·have k13 : ((n : Int) == 13) = true := by simp [h13]
     by_cases hh : 0 < m.high
     ·have hh' : (0 : Int) < (m.high : Int) := by omega
      by_cases h12 : 12 ≤ x
      ·have h12' : (12 : Int) ≤ (x : Int) := by omega
       obtain rfl : bad = false := by rw [unhide HBAD]; exact decide_eq_false (by rintro (k | ⟨_, _, k⟩); omega; exact k (by simp [hh, h12]))
       clear HBAD h13
       go_wp2_with fail
       go_meet
       exact ⟨rfl, rfl⟩
      ·have h12' : ¬ (12 : Int) ≤ (x : Int) := by omega
       obtain rfl : bad = true := by rw [unhide HBAD]; exact decide_eq_true (.inr ⟨by omega, by omega, by simp [hh, h12]⟩)
       clear HBAD h13
       go_wp2_with fail
       go_meet
       exact ⟨rfl, rfl⟩
     ·have hh' : ¬ (0 : Int) < (m.high : Int) := by omega
      by_cases h12 : 12 ≤ x
      ·have h12' : (12 : Int) ≤ (x : Int) := by omega
       obtain rfl : bad = true := by rw [unhide HBAD]; exact decide_eq_true (.inr ⟨by omega, by omega, by simp [hh, h12]⟩)
       clear HBAD h13
       go_wp2_with fail
       go_meet
       exact ⟨rfl, rfl⟩
      ·have h12' : ¬ (12 : Int) ≤ (x : Int) := by omega
       obtain rfl : bad = false := by rw [unhide HBAD]; exact decide_eq_false (by rintro (k | ⟨_, _, k⟩); omega; exact k (by simp [hh, h12]))
       clear HBAD h13
       go_wp2_with fail
       go_meet
       exact ⟨rfl, rfl⟩
    ·have k13 : ((n : Int) == 13) = false := by simp; omega
     by_cases hh : 0 < m.high
     ·have hh' : (0 : Int) < (m.high : Int) := by omega
      obtain rfl : bad = false := by rw [unhide HBAD]; exact decide_eq_false (by omega)
      clear HBAD 
      go_wp2_with fail
      go_meet
      exact ⟨rfl, rfl⟩
     ·have hh' : ¬ (0 : Int) < (m.high : Int) := by omega
      obtain rfl : bad = false := by rw [unhide HBAD]; exact decide_eq_false (by omega)
      clear HBAD 
      go_wp2_with fail
      go_meet
      exact ⟨rfl, rfl⟩
   ·simp only [show ((2 : Nat) : Int) = 2 from rfl] at c12
    by_cases hh : 0 < m.high
    ·have hh' : (0 : Int) < (m.high : Int) := by omega
     obtain rfl : bad = false := by rw [unhide HBAD]; exact decide_eq_false (by omega)
     clear HBAD 
     go_wp2_with fail
     go_meet
     exact ⟨rfl, rfl⟩
    ·have hh' : ¬ (0 : Int) < (m.high : Int) := by omega
     obtain rfl : bad = false := by rw [unhide HBAD]; exact decide_eq_false (by omega)
     clear HBAD 
     go_wp2_with fail
     go_meet
     exact ⟨rfl, rfl⟩
   ·simp only [show ((3 : Nat) : Int) = 3 from rfl] at c12
    by_cases hh : 0 < m.high
    ·have hh' : (0 : Int) < (m.high : Int) := by omega
     obtain rfl : bad = false := by rw [unhide HBAD]; exact decide_eq_false (by omega)
     clear HBAD 
     go_wp2_with fail
     go_meet
     exact ⟨rfl, rfl⟩
    ·have hh' : ¬ (0 : Int) < (m.high : Int) := by omega
     obtain rfl : bad = false := by rw [unhide HBAD]; exact decide_eq_false (by omega)
     clear HBAD 
     go_wp2_with fail
     go_meet
     exact ⟨rfl, rfl⟩
  case rest =>
   obtain ⟨rfl, rfl⟩ := hcut
   cases bad with
   | true =>
    have HF : Hid (Mp w1 g P base R (.returned (.int .i64 40)) w1) := unhide HREJ (by rw [unhide HR, if_pos (of_decide_eq_true (unhide HBAD).symm)])
    clear HR HREJ HSIM HMS2 HH HNM HBS HBAD c0 c11 c12 c13 f0 f11 f12 f13
    go_wp2_with fail
    go_ret
    exact HF
   | false =>
    have hbd := of_decide_eq_false (unhide HBAD).symm
    have HBD := hide hbd
    clear hbd HBAD
    by_cases h3 : my = 3
    ·subst h3
     simp only [show ((3 : Nat) : Int) = 3 from rfl] at c12
     obtain ⟨w2, hw2⟩ : ∃ w2, w2 = (w1.setCell ⟨P, 11, none⟩ (.int .i64 (n2 : Int))).setCell ⟨P, 12, none⟩ (.int .i64 4) := ⟨_, rfl⟩
     obtain ⟨q1, q2⟩ := unhide HMS2 4 rfl w2 hw2
     have H2 := hide q1
     have HBS2 : Hid (base ≤ w2.heap.size) := Nat.le_trans (unhide HBS) q2.size
     have HK2 : Hid (Kq w1 w2 g g (· = 5)) := (Kq.ofMv q2 (unhide HH).tP).mono (fun t ht => by omega)
     obtain ⟨hc2, hf2⟩ := q1.cells
     have d0 := hc2 0 _ rfl
     have d11 := hc2 11 _ rfl
     have d12 : w2.cell? ⟨P, 12, none⟩ = some (.int .i64 4) := hc2 12 _ rfl
     have d13 := hc2 13 _ rfl
     have g0 := hf2 0
     have g13 := hf2 13
     dsimp only at d11 d13 d0
     have HR2 : Hid (R = if 0 < m.high then (0, { putM { m with n := n2, many := 4 } (65536 + (m.high - 55296) * 1024 + n2 - 56320) with high := 0 }) else if 55296 ≤ n2 ∧ n2 < 56320 then (0, { m with n := n2, many := 4, high := n2, st := 12 }) else (0, putM { m with n := n2, many := 4 } n2)) := by
      show _ = _
      rw [unhide HR, if_neg (unhide HBD), if_neg (by omega)]
     have HtP := hide (unhide HH).tP
     clear q1 q2 hc2 hf2 HR HSIM HREJ HMS2 HBD HH HBS HNM
     have hw3 : w2 = (w1.setCell ⟨P, 11, none⟩ (.int .i64 (16 * (n : Int) + (x : Int)))).setCell ⟨P, 12, none⟩ (.int .i64 4) := by rw [unhide HEN]; exact hw2
     clear hw2
     go_upto_region 6 with fail
     rw [← hw3]
     clear hw3 c0 c11 c12 c13 f0 f11 f12 f13
     by_cases hh : 0 < m.high
     ·have hh' : (0 : Int) < (m.high : Int) := by omega
      have hlo := (hxi3 rfl).2.2 hh
      have hhi2 : 55296 ≤ m.high ∧ m.high ≤ 56319 := by omega
      obtain ⟨D1, hD1⟩ : ∃ D1, D1 = m.high - 55296 := ⟨_, rfl⟩
      obtain ⟨D2, hD2⟩ : ∃ D2, D2 = D1 * 1024 := ⟨_, rfl⟩
      obtain ⟨D3, hD3⟩ : ∃ D3, D3 = 65536 + D2 := ⟨_, rfl⟩
      obtain ⟨D4, hD4⟩ : ∃ D4, D4 = D3 + n2 := ⟨_, rfl⟩
      obtain ⟨NN, hNN⟩ : ∃ NN, NN = D4 - 56320 := ⟨_, rfl⟩
      have z1 : IntKind.i64.wrap ((m.high : Int) - 55296) = (D1 : Int) := by simp [IntKind.wrap, IntKind.bits, IntKind.signed]; omega
      have z2 : IntKind.i64.wrap ((D1 : Int) * 1024) = (D2 : Int) := by simp [IntKind.wrap, IntKind.bits, IntKind.signed]; omega
      have z3 : IntKind.i64.wrap (65536 + (D2 : Int)) = (D3 : Int) := by simp [IntKind.wrap, IntKind.bits, IntKind.signed]; omega
      have z4 : IntKind.i64.wrap ((D3 : Int) + (n2 : Int)) = (D4 : Int) := by simp [IntKind.wrap, IntKind.bits, IntKind.signed]; omega
      have z5 : IntKind.i64.wrap ((D4 : Int) - 56320) = (NN : Int) := by simp [IntKind.wrap, IntKind.bits, IntKind.signed]; omega
      have hNe : NN = 65536 + (m.high - 55296) * 1024 + n2 - 56320 := by omega
      have HE : Hid (R = (0, { putM { m with n := n2, many := 4 } NN with high := 0 })) := by show _ = _; rw [unhide HR2, if_pos hh, ← hNe]
      have hNb : NN ≤ 1114111 := by omega
      obtain ⟨D, hD⟩ : ∃ D, D = w2.drew := ⟨_, rfl⟩
      have HBD : Hid (Below w2.heap.size w2 D) := by show Below _ _ _; rw [hD]; exact (Below.refl _ _).drew
      have h2D := (unhide H2).below (unhide HBD)
      have HC := hide (rput_any NN hNb h2D hl (Nat.le_trans (unhide HBS2) (unhide HBD).size))
      have HSD : Hid ((fun u => u.cell? ⟨P, 13, none⟩ = some (.int .i64 (m.high : Int)) ∧ u.cell? ⟨P, 11, none⟩ = some (.int .i64 (n2 : Int))) D) := ⟨(h2D.cells.1 13 _ rfl), (h2D.cells.1 11 _ rfl)⟩
      have HKD : Hid (Kq w1 D g g (· = 5)) := (unhide HK2).trans (Kq.ofB (unhide HBD))
      clear HR2 hn2 H2 h2D hlo hhi2 hNe hNb hD1 hD2 hD3 hD4 hNN hhi hxi3 hh HK2 HBS2 d0 g0
      go_wp2_with fail
      refine wp_region_held_drew (S := fun u => u.cell? ⟨P, 13, none⟩ = some (.int .i64 (m.high : Int)) ∧ u.cell? ⟨P, 11, none⟩ = some (.int .i64 (n2 : Int))) (by kernel_rfl) (by rw [← hD]; exact unhide HSD) (fun hHeld => ?_)
      rw [← hD] at hHeld ⊢
      clear hD d11 d13 g13
      refine wpAnyH_take (i := 0) (oi := ?_) (v := ?_) ?_ (by kernel_rfl) ?_ ?_ ?_ ?_ hHeld ?_
      rotate_left 2
      ·(simp only [List.getElem?_toArray, List.getElem?_cons_zero]) <;> with_reducible rfl
      ·kernel_rfl
      ·kernel_rfl
      ·exact fun _ _ _ h => h
      ·exact Or.inl ⟨by rfl, by (intro w hSw; (try dsimp only at hSw); obtain ⟨s13, s11⟩ := hSw; go_simp <;> with_reducible rfl)⟩
      simp only [Act.put, List.setIfInBounds_toArray, List.set_cons_zero, List.set_cons_succ]
      refine wpAnyH_take (i := 1) (oi := ?_) (v := ?_) ?_ (by kernel_rfl) ?_ ?_ ?_ ?_ hHeld ?_
      rotate_left 2
      ·(simp only [List.getElem?_toArray, List.getElem?_cons_succ, List.getElem?_cons_zero]) <;> with_reducible rfl
      ·kernel_rfl
      ·kernel_rfl
      ·exact fun _ _ _ h => h
      ·exact Or.inl ⟨by rfl, by (intro w hSw; (try dsimp only at hSw); obtain ⟨s13, s11⟩ := hSw; go_simp <;> with_reducible rfl)⟩
      simp only [Act.put, List.setIfInBounds_toArray, List.set_cons_zero, List.set_cons_succ]
      refine wpAnyH_take (i := 2) (oi := ?_) (v := ?_) ?_ (by kernel_rfl) ?_ ?_ ?_ ?_ hHeld ?_
      rotate_left 2
      ·(simp only [List.getElem?_toArray, List.getElem?_cons_succ, List.getElem?_cons_zero]) <;> with_reducible rfl
      ·kernel_rfl
      ·kernel_rfl
      ·exact fun _ _ _ h => h
      ·exact Or.inl ⟨by rfl, by (intro w hSw; (try dsimp only at hSw); obtain ⟨s13, s11⟩ := hSw; go_simp <;> with_reducible rfl)⟩
      simp only [Act.put, List.setIfInBounds_toArray, List.set_cons_zero, List.set_cons_succ]
      refine wpAnyH_take (i := 3) (oi := ?_) (v := ?_) ?_ (by kernel_rfl) ?_ ?_ ?_ ?_ hHeld ?_
      rotate_left 2
      ·(simp only [List.getElem?_toArray, List.getElem?_cons_succ, List.getElem?_cons_zero]) <;> with_reducible rfl
      ·kernel_rfl
      ·kernel_rfl
      ·exact fun _ _ _ h => h
      ·exact Or.inl ⟨by rfl, by (intro w hSw; (try dsimp only at hSw); obtain ⟨s13, s11⟩ := hSw; go_simp <;> with_reducible rfl)⟩
      simp only [Act.put, List.setIfInBounds_toArray, List.set_cons_zero, List.set_cons_succ]
      refine wpAnyH_take (i := 4) (oi := ?_) (v := ?_) ?_ (by kernel_rfl) ?_ ?_ ?_ ?_ hHeld ?_
      rotate_left 2
      ·(simp only [List.getElem?_toArray, List.getElem?_cons_succ, List.getElem?_cons_zero]) <;> with_reducible rfl
      ·kernel_rfl
      ·kernel_rfl
      ·exact fun _ _ _ h => h
      ·exact Or.inl ⟨by rfl, by (intro w hSw; (try dsimp only at hSw); obtain ⟨s13, s11⟩ := hSw; go_simp <;> with_reducible rfl)⟩
      simp only [Act.put, List.setIfInBounds_toArray, List.set_cons_zero, List.set_cons_succ]
      refine wpAnyH_take (i := 5) (oi := ?_) (v := ?_) ?_ (by kernel_rfl) ?_ ?_ ?_ ?_ hHeld ?_
      rotate_left 2
      ·(simp only [List.getElem?_toArray, List.getElem?_cons_succ, List.getElem?_cons_zero]) <;> with_reducible rfl
      ·kernel_rfl
      ·kernel_rfl
      ·exact fun _ _ _ h => h
      ·exact Or.inl ⟨by rfl, by (intro w hSw; (try dsimp only at hSw); obtain ⟨s13, s11⟩ := hSw; go_simp <;> with_reducible rfl)⟩
      simp only [Act.put, List.setIfInBounds_toArray, List.set_cons_zero, List.set_cons_succ]
      refine wpAnyH_take (i := 6) (oi := ?_) (v := ?_) ?_ (by kernel_rfl) ?_ ?_ ?_ ?_ hHeld ?_
      rotate_left 2
      ·(simp only [List.getElem?_toArray, List.getElem?_cons_succ, List.getElem?_cons_zero]) <;> with_reducible rfl
      ·kernel_rfl
      ·kernel_rfl
      ·exact fun _ _ _ h => h
      ·exact Or.inl ⟨by rfl, by (intro w hSw; (try dsimp only at hSw); obtain ⟨s13, s11⟩ := hSw; go_simp <;> with_reducible rfl)⟩
      simp only [Act.put, List.setIfInBounds_toArray, List.set_cons_zero, List.set_cons_succ]
      refine wpAnyH_take (i := 7) (oi := ?_) (v := ?_) ?_ (by kernel_rfl) ?_ ?_ ?_ ?_ hHeld ?_
      rotate_left 2
      ·(simp only [List.getElem?_toArray, List.getElem?_cons_succ, List.getElem?_cons_zero]) <;> with_reducible rfl
      ·kernel_rfl
      ·kernel_rfl
      ·exact fun _ _ _ h => h
      ·exact Or.inl ⟨by rfl, by (intro w hSw; (try dsimp only at hSw); obtain ⟨s13, s11⟩ := hSw; go_simp <;> with_reducible rfl)⟩
      simp only [Act.put, List.setIfInBounds_toArray, List.set_cons_zero, List.set_cons_succ]
      refine wpAnyH_take (i := 8) (oi := ?_) (v := ?_) ?_ (by kernel_rfl) ?_ ?_ ?_ ?_ hHeld ?_
      rotate_left 2
      ·(simp only [List.getElem?_toArray, List.getElem?_cons_succ, List.getElem?_cons_zero]) <;> with_reducible rfl
      ·kernel_rfl
      ·kernel_rfl
      ·exact fun _ _ _ h => h
      ·exact Or.inl ⟨by rfl, by (intro w hSw; (try dsimp only at hSw); obtain ⟨s13, s11⟩ := hSw; go_simp <;> with_reducible rfl)⟩
      simp only [Act.put, List.setIfInBounds_toArray, List.set_cons_zero, List.set_cons_succ]
      refine wpAnyH_take (i := 9) (oi := ?_) (v := ?_) ?_ (by kernel_rfl) ?_ ?_ ?_ ?_ hHeld ?_
      rotate_left 2
      ·(simp only [List.getElem?_toArray, List.getElem?_cons_succ, List.getElem?_cons_zero]) <;> with_reducible rfl
      ·kernel_rfl
      ·kernel_rfl
      ·exact fun _ _ _ h => h
      ·exact Or.inl ⟨by rfl, by (intro w hSw; (try dsimp only at hSw); obtain ⟨s13, s11⟩ := hSw; go_simp <;> with_reducible rfl)⟩
      simp only [Act.put, List.setIfInBounds_toArray, List.set_cons_zero, List.set_cons_succ]
      refine wpAnyH_take (i := 10) (oi := ?_) (v := ?_) ?_ (by kernel_rfl) ?_ ?_ ?_ ?_ hHeld ?_
      rotate_left 2
      ·(simp only [List.getElem?_toArray, List.getElem?_cons_succ, List.getElem?_cons_zero]) <;> with_reducible rfl
      ·kernel_rfl
      ·kernel_rfl
      ·exact fun _ _ _ h => h
      ·exact Or.inl ⟨by rfl, by (intro w hSw; (try dsimp only at hSw); obtain ⟨s13, s11⟩ := hSw; go_simp <;> with_reducible rfl)⟩
      simp only [Act.put, List.setIfInBounds_toArray, List.set_cons_zero, List.set_cons_succ]
      refine wpAnyH_take (i := 11) (oi := ?_) (v := ?_) ?_ (by kernel_rfl) ?_ ?_ ?_ ?_ hHeld ?_
      rotate_left 2
      ·(simp only [List.getElem?_toArray, List.getElem?_cons_succ, List.getElem?_cons_zero]) <;> with_reducible rfl
      ·kernel_rfl
      ·kernel_rfl
      ·exact fun _ _ _ h => h
      ·exact Or.inl ⟨by rfl, by (intro w hSw; (try dsimp only at hSw); obtain ⟨s13, s11⟩ := hSw; go_simp <;> with_reducible rfl)⟩
      simp only [Act.put, List.setIfInBounds_toArray, List.set_cons_zero, List.set_cons_succ]
      refine wpAnyH_take (i := 12) (oi := ?_) (v := ?_) ?_ (by kernel_rfl) ?_ ?_ ?_ ?_ hHeld ?_
      rotate_left 2
      ·(simp only [List.getElem?_toArray, List.getElem?_cons_succ, List.getElem?_cons_zero]) <;> with_reducible rfl
      ·kernel_rfl
      ·kernel_rfl
      ·exact fun _ _ _ h => h
      ·exact Or.inl ⟨by rfl, by (intro w hSw; (try dsimp only at hSw); obtain ⟨s13, s11⟩ := hSw; go_simp <;> with_reducible rfl)⟩
      simp only [Act.put, List.setIfInBounds_toArray, List.set_cons_zero, List.set_cons_succ]
      refine wpAnyH_take (i := 13) (oi := ?_) (v := ?_) ?_ (by kernel_rfl) ?_ ?_ ?_ ?_ hHeld ?_
      rotate_left 2
      ·(simp only [List.getElem?_toArray, List.getElem?_cons_succ, List.getElem?_cons_zero]) <;> with_reducible rfl
      ·kernel_rfl
      ·kernel_rfl
      ·exact fun _ _ _ h => h
      ·exact Or.inl ⟨by rfl, by (intro w hSw; (try dsimp only at hSw); obtain ⟨s13, s11⟩ := hSw; go_simp <;> with_reducible rfl)⟩
      simp only [Act.put, List.setIfInBounds_toArray, List.set_cons_zero, List.set_cons_succ]
      refine wpAnyH_ready (rs := [14]) (by kernel_rfl) (by simp) ?rdp
      refine AllReadyH.cons (o := ?op) ?hp (fun K hK => ?bp) AllReadyH.nil
      case hp => (simp only [List.getElem?_toArray, List.getElem?_cons_succ, List.getElem?_cons_zero]) <;> with_reducible rfl
      case bp =>
       go_simp
       refine (unhide HC).mono ?_
       rintro e w3 ⟨g3, rfl, ⟨la3, lc3, vk3, vn3, vt3, va3, vn13, vc13, va23, vn23, vc23, ta3, tc3, ca3, cc3, fs3, h3⟩, hk⟩
       have HKW : Hid (Kq w1 w3 g g3 (· = 5)) := (unhide HKD).trans hk
       obtain ⟨hc3, hf3⟩ := h3.cells
       have e13 := hc3 13 _ rfl
       have g13 := hf3 13
       have HS3 : Hid ((fun u => u.cell? ⟨P, 13, none⟩ = some (.int .i64 (m.high : Int)) ∧ u.cell? ⟨P, 11, none⟩ = some (.int .i64 (n2 : Int))) w3) := ⟨e13, hc3 11 _ rfl⟩
       have e13 : w3.cell? ⟨P, 13, none⟩ = some (.int .i64 (m.high : Int)) := e13
       have HF : Hid (∀ w', w' = w3.setCell ⟨P, 13, none⟩ (.int .i64 0) → Mp w1 g P base R (.returned (.int .i64 0)) w') := fun w' e => by
        rw [unhide HE]
        have mv : Mv w3 w' P := by rw [e]; exact Mv.set _ _ _ _
        have := h3.mv (m' := { putM { m with n := n2, many := 4 } NN with high := 0 }) mv rfl rfl rfl rfl (by rw [e]; exact heap_setCell_same _ _ _ _ _ _ h3.row)
        exact ⟨g3, rfl, fun _ => this.mb, (unhide HKW).trans ((Kq.ofMv mv h3.tP).mono (fun t ht => by omega))⟩
       clear h3 hc3 hf3 hk HC HE
       refine hK.out _ _ (unhide HS3) (fun hHeld => ?_)
       clear hK K
       try simp only [Act.put, List.setIfInBounds_toArray, List.set_cons_zero, List.set_cons_succ]
       refine wpAnyH_done (by kernel_rfl) ?_ _
       clear HS3 z1 z2 z3 z4 z5
       go_wp2_with fail
       go_ret
       exact unhide HF _ rfl
     ·have hh' : ¬ (0 : Int) < (m.high : Int) := by omega
      by_cases hs : 55296 ≤ n2 ∧ n2 < 56320
      ·have s1 : (55296 : Int) ≤ (n2 : Int) := by omega
       have s2 : (n2 : Int) < 56320 := by omega
       have HF : Hid (∀ w', w' = (w2.setCell ⟨P, 13, none⟩ (.int .i64 (n2 : Int))).setCell ⟨P, 0, none⟩ (.int .i64 12) → Mp w1 g P base R (.returned (.int .i64 0)) w') := fun w' e => by
        rw [unhide HR2, if_neg hh, if_pos hs]
        have mv : Mv w2 w' P := by rw [e]; exact (Mv.set _ _ _ _).trans (Mv.set _ _ _ _)
        have := (unhide H2).mv (m' := { m with n := n2, many := 4, high := n2, st := 12 }) mv rfl rfl rfl rfl (by rw [e]; exact heap_setCell_same _ _ _ _ _ _ (heap_setCell_same _ _ _ _ _ _ (unhide H2).row))
        exact ⟨g, rfl, fun _ => this.mb, (unhide HK2).trans ((Kq.ofMv mv (unhide HtP)).mono (fun t ht => by omega))⟩
       clear HR2 hs hn2 H2
       go_wp2_with fail
       go_ret
       exact unhide HF _ rfl
      ·have HC := hide (rput_any n2 (by omega) (unhide H2) hl (unhide HBS2))
       have HE : Hid (R = (0, putM { m with n := n2, many := 4 } n2)) := by show _ = _; rw [unhide HR2, if_neg hh, if_neg hs]
       have hs2 : (¬ (55296 : Int) ≤ (n2 : Int)) ∨ ((55296 : Int) ≤ (n2 : Int) ∧ ¬ (n2 : Int) < 56320) := by omega
       clear HR2 hs hn2 H2
       rcases hs2 with s1 | ⟨s1, s2⟩
       all_goals
        go_wp2_with fail
        refine (unhide HC).mono ?_
        rintro e w3 ⟨g3, rfl, hm, hk⟩
        have HF : Hid (Mp w1 g P base R (.returned (.int .i64 0)) w3) := by
         show Mp _ _ _ _ _ _ _
         rw [unhide HE]
         exact ⟨g3, rfl, fun _ => hm, (unhide HK2).trans hk⟩
        clear hm hk HC
        go_wp2_with fail
        go_ret
        exact HF
    ·have HF1 := hide (unhide HSIM (by rw [unhide HR, if_neg (unhide HBD), if_pos (by omega)]) _ rfl)
     have HF : Hid (∀ w', w' = (w1.setCell ⟨P, 11, none⟩ (.int .i64 (16 * (n : Int) + (x : Int)))).setCell ⟨P, 12, none⟩ (.int .i64 ((my : Int) + 1)) → Mp w1 g P base R (.returned (.int .i64 0)) w') := fun w' e => unhide HF1 w' (by rw [e, unhide HEN])
     have hlt4 : (my : Int) + 1 < 4 := by omega
     clear HR HREJ HSIM HMS2 HH HNM HBS HBD h3
     go_wp2_with fail
     go_ret
     exact unhide HF _ rfl
#print axioms rdigitOf_any
end Go.Proofs.YtbnbngmnoffmkaaGreatDoor
end
