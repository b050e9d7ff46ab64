/-
  jsonx: the document's machine within a text.; jsonx: the document's machine reads what the program's parser reads.; jsonx: the document's Equal, of two values that tell the same.
-/
import Derived.Test.YtbnbngmnoffmkaaGreatDoorPkJsesaw
import Derived.Test.YtbnbngmnoffmkaaGreatDoorPkJsesat
import Derived.BigQuiet
import Derived.Deep.RegionHeld3
section
set_option linter.unusedVariables false
set_option maxRecDepth 1000000
namespace Go.Proofs.YtbnbngmnoffmkaaGreatDoor
open Go.RowKit

/-- Within a text again: what it is now; all else that matters as before. -/
def Wt (m : Mc) (t : List UInt8) (m' : Mc) : Prop := m'.st = 9 ∧ m'.text = t ∧ m'.isKey = m.isKey ∧ m'.l = m.l
theorem Wt.put (m : Mc) (n : Nat) : Wt m (m.text ++ enB n) (putM m n) := ⟨rfl, rfl, rfl, rfl⟩
/-- Four digits are read. -/
def hexEnd (m : Mc) : Mc :=
 if 0 < m.high then { putM m (65536 + (m.high - 55296) * 1024 + m.n - 56320) with high := 0 }
 else if 55296 ≤ m.n ∧ m.n < 56320 then { m with high := m.n, st := 12 }
 else putM m m.n
def fitM (high : Nat) : Nat → Nat → Bool := if 0 < high then fitL else fitH
/-- What digits were read may go on. -/
def HxI (high many n : Nat) : Prop := (many = 0 → n = 0) ∧ (many = 1 → n < 16 ∧ (0 < high → n = 13)) ∧ (many = 2 → n < 256 ∧ ((220 ≤ n ∧ n ≤ 223) ↔ 0 < high)) ∧ (many = 3 → n < 4096 ∧ ((3520 ≤ n ∧ n ≤ 3583) ↔ 0 < high))
theorem fit_iff (high many n x k : Nat) (hI : HxI high many n) (hx : x < 16) (hk : many + (k + 1) = 4) :
  (fitM high ((n * 16 + x) * 16 ^ k) ((n * 16 + x) * 16 ^ k + (16 ^ k - 1)) = true ↔ ¬ ((0 < high ∧ many = 0 ∧ x ≠ 13) ∨ (many = 1 ∧ n = 13 ∧ decide (12 ≤ x) ≠ decide (0 < high)))) ∧ (fitM high ((n * 16 + x) * 16 ^ k) ((n * 16 + x) * 16 ^ k + (16 ^ k - 1)) = true → many < 3 → HxI high (many + 1) (16 * n + x)) := by
 obtain ⟨i0, i1, i2, i3⟩ := hI
 have hm : (many = 0 ∧ k = 3) ∨ (many = 1 ∧ k = 2) ∨ (many = 2 ∧ k = 1) ∨ (many = 3 ∧ k = 0) := by omega
 unfold HxI fitM
 by_cases hh : 0 < high
 ·rw [if_pos hh]
  unfold fitL
  rcases hm with ⟨rfl, rfl⟩ | ⟨rfl, rfl⟩ | ⟨rfl, rfl⟩ | ⟨rfl, rfl⟩
  ·have := i0 rfl
   subst this
   simp only [Bool.and_eq_true, decide_eq_true_eq, hh]
   refine ⟨?_, ?_⟩
   ·simp; omega
   ·intro h _; refine ⟨by omega, fun _ => ⟨by omega, fun _ => by omega⟩, by omega, by omega⟩
  ·obtain ⟨a1, a2⟩ := i1 rfl
   have := a2 hh
   subst this
   simp only [Bool.and_eq_true, decide_eq_true_eq, hh]
   refine ⟨?_, ?_⟩
   ·simp; omega
   ·intro h _; refine ⟨by omega, by omega, fun _ => ⟨by omega, (by constructor <;> intro k <;> first | trivial | omega | exact k.elim)⟩, by omega⟩
  ·obtain ⟨a1, a2⟩ := i2 rfl
   have := a2.2 hh
   simp only [Bool.and_eq_true, decide_eq_true_eq, hh]
   refine ⟨?_, ?_⟩
   ·simp; omega
   ·intro h _; refine ⟨by omega, by omega, by omega, fun _ => ⟨by omega, (by constructor <;> intro k <;> first | trivial | omega | exact k.elim)⟩⟩
  ·obtain ⟨a1, a2⟩ := i3 rfl
   have := a2.2 hh
   simp only [Bool.and_eq_true, decide_eq_true_eq, hh]
   refine ⟨?_, fun _ h => by omega⟩
   simp; omega
 ·rw [if_neg hh]
  unfold fitH
  rcases hm with ⟨rfl, rfl⟩ | ⟨rfl, rfl⟩ | ⟨rfl, rfl⟩ | ⟨rfl, rfl⟩
  ·have := i0 rfl
   subst this
   simp only [Bool.not_eq_true', Bool.and_eq_false_iff, decide_eq_false_iff_not, hh]
   refine ⟨?_, ?_⟩
   ·simp; omega
   ·intro h _; refine ⟨by omega, fun _ => ⟨by omega, fun k => k.elim⟩, by omega, by omega⟩
  ·obtain ⟨a1, _⟩ := i1 rfl
   simp only [Bool.not_eq_true', Bool.and_eq_false_iff, decide_eq_false_iff_not, hh]
   refine ⟨?_, ?_⟩
   ·simp; omega
   ·intro h _; refine ⟨by omega, by omega, fun _ => ⟨by omega, (by constructor <;> intro k <;> first | trivial | omega | exact k.elim)⟩, by omega⟩
  ·obtain ⟨a1, a2⟩ := i2 rfl
   simp only [Bool.not_eq_true', Bool.and_eq_false_iff, decide_eq_false_iff_not, hh]
   refine ⟨?_, ?_⟩
   ·simp; omega
   ·intro h _; refine ⟨by omega, by omega, by omega, fun _ => ⟨by omega, (by constructor <;> intro k <;> first | trivial | omega | exact k.elim)⟩⟩
  ·obtain ⟨a1, a2⟩ := i3 rfl
   simp only [Bool.not_eq_true', Bool.and_eq_false_iff, decide_eq_false_iff_not, hh]
   refine ⟨?_, fun _ h => by omega⟩
   simp; omega
theorem next11 {m : Mc} (h : m.st = 11) (c : UInt8) : nextM m c = digitOfM m c := by
 unfold nextM
 simp [h]
theorem run_un : ∀ (k : Nat) (l : List UInt8) (m : Mc), m.st = 11 → m.many + (k + 1) = 4 → HxI m.high m.many m.n →
  match unM (fitM m.high) (k + 1) m.n l with
  | .no r y => runJ m l = .no r y
  | .ok v r => runJ m l = runJ (hexEnd { m with n := v, many := 4 }) r
 | k, [], m, hs, hm, hI => by
  simp only [unM]
  rw [runJ_nil]
  unfold finM
  simp [hs]
 | k, c :: l, m, hs, hm, hI => by
  simp only [unM]
  cases hx : hxB c with
  | none =>
   refine runJ_no l (m' := m) ?_ (by omega)
   rw [next11 hs]
   unfold digitOfM
   rw [hx]
  | some x =>
   have hlt := hxB_lt c x hx
   obtain ⟨f1, f2⟩ := fit_iff m.high m.many m.n x k hI hlt hm
   dsimp only
   by_cases hf : fitM m.high ((m.n * 16 + x) * 16 ^ k) ((m.n * 16 + x) * 16 ^ k + (16 ^ k - 1)) = true
   ·rw [if_pos hf]
    have hno := f1.1 hf
    have en : m.n * 16 + x = 16 * m.n + x := by omega
    cases k with
    | zero =>
     simp only [unM]
     refine runJ_ok l ?_
     rw [next11 hs]
     unfold digitOfM
     rw [hx]
     dsimp only
     have h4 : ¬ m.many + 1 < 4 := by omega
     have e4 : m.many + 1 = 4 := by omega
     rw [if_neg hno, if_neg h4, e4]
     unfold hexEnd
     by_cases hh : 0 < m.high
     ·simp only [hh, if_true, en]
     ·simp only [hh, if_false, en]
      by_cases h5 : 55296 ≤ 16 * m.n + x ∧ 16 * m.n + x < 56320
      ·simp only [h5, and_self, if_true]
      ·simp only [h5, if_false]
    | succ k =>
     have e : nextM m c = (0, { m with n := 16 * m.n + x, many := m.many + 1 }) := by
      rw [next11 hs]
      unfold digitOfM
      rw [hx]
      dsimp only
      rw [if_neg hno, if_pos (by omega)]
     have ih := run_un k l { m with n := 16 * m.n + x, many := m.many + 1 } hs (by show m.many + 1 + (k + 1) = 4; omega) (f2 hf (by omega))
     rw [runJ_ok l e, en]
     exact ih
   ·rw [if_neg hf]
    have hyes := Classical.not_not.1 (fun h => hf (f1.2 h))
    refine runJ_no l (m' := m) ?_ (by omega)
    rw [next11 hs]
    unfold digitOfM
    rw [hx]
    dsimp only
    rw [if_pos hyes]
theorem run_hc (l : List UInt8) (m : Mc) (hs : m.st = 11) (hn : m.n = 0) (hm : m.many = 0) (hh : m.high = 0) :
  match hcM l with
  | .no r y => runJ m l = .no r y
  | .ok v r => ∃ m', Wt m (m.text ++ enB v) m' ∧ runJ m l = runJ m' r := by
 have h1 := run_un 3 l m hs (by omega) ⟨fun _ => hn, by omega, by omega, by omega⟩
 rw [hn, show fitM m.high = fitH by unfold fitM; rw [if_neg (by omega)]] at h1
 unfold hcM
 cases hu : unM fitH 4 0 l with
 | no r y => rw [hu] at h1; exact h1
 | ok h r =>
  rw [hu] at h1
  dsimp only at h1 ⊢
  have e0 : ¬ 0 < m.high := by omega
  by_cases hp : 55296 ≤ h ∧ h ≤ 56319
  ·rw [if_pos hp]
   have eh : hexEnd { m with n := h, many := 4 } = { m with n := h, many := 4, high := h, st := 12 } := by
    unfold hexEnd
    simp only [e0, if_false]
    rw [if_pos (by omega)]
   rw [eh] at h1
   rw [h1]
   cases r with
   | nil =>
    simp only [wdM]
    rw [runJ_nil]
    unfold finM
    simp
   | cons c r =>
    simp only [wdM]
    by_cases hc : c = 92
    ·have e2 : nextM { m with n := h, many := 4, high := h, st := 12 } c = (0, { m with n := h, many := 4, high := h, st := 13 }) := by
      unfold nextM
      simp [hc]
     rw [if_pos hc, runJ_ok r e2]
     cases r with
     | nil =>
      simp only [wdM]
      rw [runJ_nil]
      unfold finM
      simp
     | cons d r =>
      simp only [wdM]
      by_cases hd : d = 117
      ·have e3 : nextM { m with n := h, many := 4, high := h, st := 13 } d = (0, { m with n := 0, many := 0, high := h, st := 11 }) := by
        unfold nextM
        simp [hd]
       rw [if_pos hd, runJ_ok r e3]
       have h2 := run_un 3 r { m with n := 0, many := 0, high := h, st := 11 } rfl rfl ⟨fun _ => rfl, by simp, by simp, by simp⟩
       have ef : fitM h = fitL := by unfold fitM; rw [if_pos (by omega)]
       dsimp only at h2
       rw [ef] at h2
       dsimp only
       cases hv : unM fitL 4 0 r with
       | no r3 y => rw [hv] at h2; exact h2
       | ok lo r3 =>
        rw [hv] at h2
        dsimp only at h2 ⊢
        have hlo := (un_ft2 fitL 3 0 r lo r3 hv).1
        unfold fitL at hlo
        simp only [Bool.and_eq_true, decide_eq_true_eq] at hlo
        refine ⟨_, ?_, h2⟩
        unfold hexEnd
        dsimp only
        rw [if_pos (by omega)]
        refine ⟨rfl, ?_, rfl, rfl⟩
        show m.text ++ enB (65536 + (h - 55296) * 1024 + lo - 56320) = _
        rw [show 65536 + (h - 55296) * 1024 + lo - 56320 = 65536 + (h - 55296) * 1024 + (lo - 56320) by omega]
      ·rw [if_neg hd]
       refine runJ_no r (m' := { m with n := h, many := 4, high := h, st := 13 }) ?_ (by omega)
       unfold nextM
       simp [hd]
    ·rw [if_neg hc]
     refine runJ_no r (m' := { m with n := h, many := 4, high := h, st := 12 }) ?_ (by omega)
     unfold nextM
     simp [hc]
  ·rw [if_neg hp]
   refine ⟨_, ?_, h1⟩
   unfold hexEnd
   dsimp only
   rw [if_neg e0, if_neg (by omega)]
   exact ⟨rfl, rfl, rfl, rfl⟩
theorem run_es (l : List UInt8) (m : Mc) (hs : m.st = 9) :
  match esM (92 :: l) with
  | .no r y => runJ m (92 :: l) = .no r y
  | .ok v r => ∃ m', Wt m (m.text ++ enB v) m' ∧ runJ m (92 :: l) = runJ m' r := by
 have e1 : nextM m 92 = (0, { m with st := 10 }) := by
  unfold nextM withinM
  simp [hs]
 unfold esM
 simp only [tkM, if_true]
 rw [runJ_ok l e1]
 cases l with
 | nil =>
  simp only
  rw [runJ_nil]
  unfold finM
  simp
 | cons c r =>
  have e2 : nextM { m with st := 10 } c = escapedM { m with st := 10 } c := by
   unfold nextM
   simp
  dsimp only
  by_cases hc : c = 117
  ·have e3 : nextM { m with st := 10 } c = (0, { m with st := 11, n := 0, many := 0, high := 0 }) := by
    rw [e2, hc]
    rfl
   rw [if_pos hc, runJ_ok r e3]
   exact run_hc r { m with st := 11, n := 0, many := 0, high := 0 } rfl rfl rfl rfl
  ·rw [if_neg hc]
   cases hv : escV c with
   | none =>
    refine runJ_no r (m' := { m with st := 10 }) ?_ (by omega)
    rw [e2]
    unfold escapedM
    rw [hv]
    simp [hc]
   | some n =>
    refine ⟨putM { m with st := 10 } n, ⟨rfl, rfl, rfl, rfl⟩, runJ_ok r ?_⟩
    rw [e2]
    unfold escapedM
    rw [hv]
theorem next15 {m : Mc} (h : m.st = 15) (c : UInt8) : nextM m c = partM m c := by
 unfold nextM
 simp [h]
theorem run_part (hn : ∀ c, ∀ m : Mc, m.st = 15 → nextM m c = partM m c) : ∀ (l p : List UInt8) (m m0 : Mc), m.st = 15 → m.char = p → p ≠ [] → fuB p = false → m.isKey = m0.isKey → m.l = m0.l →
  match chL p l with
  | .no r y => runJ m l = .no r y
  | .ok q r => ∃ m', Wt m0 (m.text ++ q) m' ∧ runJ m l = runJ m' r
 | [], p, m, m0, hs, hp, hne, hf, k1, k2 => by
  simp only [chL]
  rw [runJ_nil]
  unfold finM
  simp [hs]
 | c :: r, p, m, m0, hs, hp, hne, hf, k1, k2 => by
  simp only [chL]
  obtain ⟨b1, b2⟩ := beg_fu p c (fun _ => hf) (fun e => absurd e hne)
  by_cases hc : chr (p ++ [c]) = none
  ·rw [if_pos (b1 hc), if_pos hc]
   refine ⟨{ m with text := m.text ++ (p ++ [c]), st := 9 }, ⟨rfl, rfl, k1, k2⟩, runJ_ok r ?_⟩
   rw [hn c m hs]
   unfold partM
   rw [hp]
   simp only [hc, if_true]
  ·have hb := b2 hc
   by_cases hfu : fuB (p ++ [c]) = true
   ·rw [if_pos hfu, if_neg hc]
    refine runJ_no r (m' := m) ?_ (by omega)
    rw [hn c m hs]
    unfold partM
    rw [hp]
    simp only [hc, if_false, hb, hfu, Bool.not_true, if_true]
   ·have hfu0 : fuB (p ++ [c]) = false := by simpa using hfu
    rw [if_neg hfu]
    have e : nextM m c = (0, { m with char := p ++ [c], st := 15 }) := by
     rw [hn c m hs]
     unfold partM
     rw [hp]
     simp only [hc, if_false, hb, hfu0, Bool.not_false, Bool.true_eq_false]
    rw [runJ_ok r e]
    exact run_part hn r (p ++ [c]) { m with char := p ++ [c], st := 15 } m0 rfl rfl (by simp) hfu0 k1 k2
theorem chr_low {c : UInt8} (h : c.toNat < 128) : chr [c] = none := by
 have e : d4 [c] = (c.toNat, 1) := by
  show Lib.decodeN 1 c.toNat 0 0 0 = _
  unfold Lib.decodeN
  rw [if_pos h]
 exact chr_whole (by simp) (by rw [e]; intro k; have := congrArg Prod.fst k; simp at this; omega) (by rw [e]; rfl)
theorem run_ch (c : UInt8) (r : List UInt8) (m : Mc) (hs : m.st = 9) (h34 : c ≠ 34) (h92 : c ≠ 92) (h32 : ¬ c.toNat < 32) :
  match chM (c :: r) with
  | .no r2 y => runJ m (c :: r) = .no r2 y
  | .ok q r2 => ∃ m', Wt m (m.text ++ q) m' ∧ runJ m (c :: r) = runJ m' r2 := by
 have e0 : nextM m c = if c.toNat < 128 then (0, { m with text := m.text ++ [c] }) else partM { m with char := [] } c := by
  unfold nextM withinM
  simp [hs, h34, h92, h32]
 unfold chM
 simp only [chL, List.nil_append]
 by_cases h128 : c.toNat < 128
 ·rw [if_pos h128] at e0
  have hfu : fuB [c] = true := by rw [fu1]; simp; omega
  rw [if_pos hfu, if_pos (chr_low h128)]
  exact ⟨{ m with text := m.text ++ [c] }, ⟨hs, rfl, rfl, rfl⟩, runJ_ok r e0⟩
 ·rw [if_neg h128] at e0
  obtain ⟨b1, b2⟩ := beg_fu [] c (fun e => absurd rfl e) (fun _ => by omega)
  rw [List.nil_append] at b1 b2
  have hc : chr [c] ≠ none := few1 (by omega)
  have hb := b2 hc
  by_cases hfu : fuB [c] = true
  ·rw [if_pos hfu, if_neg hc]
   refine runJ_no r (m' := { m with char := [] }) ?_ (by omega)
   rw [e0]
   unfold partM
   simp only [List.nil_append, hc, if_false, hb, hfu, Bool.not_true, if_true]
  ·have hfu0 : fuB [c] = false := by simpa using hfu
   rw [if_neg hfu]
   have e : nextM m c = (0, { m with char := [c], st := 15 }) := by
    rw [e0]
    unfold partM
    simp only [List.nil_append, hc, if_false, hb, hfu0, Bool.not_false, Bool.true_eq_false]
   rw [runJ_ok r e]
   exact run_part (fun c m h => next15 h c) r [c] { m with char := [c], st := 15 } m rfl rfl (by simp) hfu0 rfl rfl
theorem chl_len : ∀ (l p q r : List UInt8), chL p l = .ok q r → r.length < l.length
 | [], p, q, r, h => by simp [chL] at h
 | c :: l, p, q, r, h => by
  simp only [chL] at h
  split at h
  ·split at h
   ·simp only [Rs.ok.injEq] at h; rw [← h.2]; simp
   ·cases h
  ·have := chl_len l (p ++ [c]) q r h
   simp; omega
theorem en_pos (n : Nat) : 1 ≤ (enB n).length := by
 unfold enB
 repeat' split
 all_goals simp
theorem run_uql : ∀ (f : Nat) (acc l : List UInt8) (m : Mc), m.st = 9 → m.text = acc → l.length < f →
  match uqL f acc l with
  | .no r y => runJ m l = .no r y
  | .ok t r => ∃ m' r', Wt m t m' ∧ r = 34 :: r' ∧ r.length ≤ l.length ∧ runJ m l = runJ m' r
 | 0, acc, l, m, _, _, h => by omega
 | f + 1, acc, [], m, hs, ht, h => by
  simp only [uqL]
  rw [runJ_nil]
  unfold finM
  simp [hs]
 | f + 1, acc, c :: r, m, hs, ht, h => by
  simp only [List.length_cons] at h
  simp only [uqL]
  by_cases h34 : c = 34
  ·rw [if_pos h34]
   exact ⟨m, r, ⟨hs, ht, rfl, rfl⟩, by rw [h34], Nat.le_refl _, rfl⟩
  ·rw [if_neg h34]
   by_cases h92 : c = 92
   ·subst h92
    rw [if_pos rfl]
    have h1 := run_es r m hs
    cases he : esM (92 :: r) with
    | no r2 y => rw [he] at h1; exact h1
    | ok n r2 =>
     rw [he] at h1
     obtain ⟨m1, ⟨w1, w2, w3, w4⟩, e1⟩ := h1
     have hl := (es_rune (92 :: r) n r2 he).2
     have := en_pos n
     simp only [List.length_cons] at hl
     have ih := run_uql f (acc ++ enB n) r2 m1 w1 (by rw [w2, ht]) (by omega)
     rw [e1]
     dsimp only
     cases hu : uqL f (acc ++ enB n) r2 with
     | no r3 y => rw [hu] at ih; exact ih
     | ok t r3 =>
      rw [hu] at ih
      obtain ⟨m2, r', ⟨x1, x2, x3, x4⟩, k2, k3, k4⟩ := ih
      exact ⟨m2, r', ⟨x1, x2, x3.trans w3, x4.trans w4⟩, k2, by simp only [List.length_cons]; omega, k4⟩
   ·rw [if_neg h92]
    by_cases h32 : c.toNat < 32
    ·rw [if_pos h32]
     refine runJ_no r (m' := m) ?_ (by omega)
     unfold nextM withinM
     simp [hs, h34, h32]
    ·rw [if_neg h32]
     have h1 := run_ch c r m hs h34 h92 h32
     cases he : chM (c :: r) with
     | no r2 y => rw [he] at h1; exact h1
     | ok q r2 =>
      rw [he] at h1
      obtain ⟨m1, ⟨w1, w2, w3, w4⟩, e1⟩ := h1
      have hl := chl_len _ _ _ _ he
      simp only [List.length_cons] at hl
      have ih := run_uql f (acc ++ q) r2 m1 w1 (by rw [w2, ht]) (by omega)
      rw [e1]
      dsimp only
      cases hu : uqL f (acc ++ q) r2 with
      | no r3 y => rw [hu] at ih; exact ih
      | ok t r3 =>
       rw [hu] at ih
       obtain ⟨m2, r', ⟨x1, x2, x3, x4⟩, k2, k3, k4⟩ := ih
       exact ⟨m2, r', ⟨x1, x2, x3.trans w3, x4.trans w4⟩, k2, by simp only [List.length_cons]; omega, k4⟩
#print axioms run_uql
end Go.Proofs.YtbnbngmnoffmkaaGreatDoor
end
section
set_option linter.unusedVariables false
set_option maxRecDepth 1000000
namespace Go.Proofs.YtbnbngmnoffmkaaGreatDoor
open Go.RowKit

/-- What is left does not begin with a blank. -/
def NoB (l : List UInt8) : Prop := ∀ c r, l = c :: r → blB4 c = false
theorem sk_nob : ∀ l, NoB (skB l)
 | [] => fun c r e => by cases e
 | x :: l => by
  rw [skB_cons]
  by_cases h : blB4 x = true
  ·rw [if_pos h]; exact sk_nob l
  ·rw [if_neg h]; intro c r e; cases e; simpa using h
theorem NoB.sk {l : List UInt8} (h : NoB l) : skB l = l := by
 cases l with
 | nil => rfl
 | cons c r => rw [skB_cons, if_neg (by rw [h c r rfl]; simp)]
def VaS (N : Nat) : Prop := ∀ (m : Mc) (l : List UInt8), m.l.length + N = 16 → m.st ≤ 1 → NoB l → (m.st = 1 → ∀ c r, l = c :: r → c ≠ 93) →
 match vaM N l with
 | .no r y => runJ m l = .no r y
 | .ok v r => ∃ m', Bh m.l v m' ∧ runJ m l = runJ m' r
theorem fin_no {m : Mc} (h : m.l ≠ [] ∨ (m.st ≠ 5 ∧ m.st ≠ 7 ∧ m.st ≠ 14)) : finM m = .no [] 40 := by
 unfold finM
 by_cases hl : m.l = []
 ·rcases h with h | h
  ·exact absurd hl h
  ·rw [if_neg (by omega), if_pos (.inr h.1)]
 ·rw [if_neg (fun k => hl k.1), if_pos (.inl hl)]
theorem bh_push {l0 : List Opn} {o : Opn} {v : Js} {m : Mc} (h : Bh (l0 ++ [o]) v m) : m.st = 5 ∧ m.l = l0 ++ [addV v o] := by
 refine ⟨h.1, ?_⟩
 rw [h.2.2 (by simp), upd_last]
/-- A list's items. -/
theorem run_li (N : Nat) (hV : VaS N) : ∀ (f : Nat) (acc : List Js) (l : List UInt8) (m : Mc) (l0 : List Opn) (nm : List UInt8), m.l = l0 ++ [⟨4, [], acc, nm⟩] → l0.length + 1 + N = 16 → m.st ≤ 1 → NoB l → (m.st = 1 → ∀ c r, l = c :: r → c ≠ 93) → l.length < f →
  match liL (vaM N) f acc l with
  | .no r y => runJ m l = .no r y
  | .ok is r => ∃ m', m'.st = 5 ∧ m'.l = l0 ++ [⟨4, [], is, nm⟩] ∧ runJ m l = runJ m' r ∧ NoB r ∧ (∀ c t, r = c :: t → c ≠ 44)
 | 0, acc, l, m, l0, nm, _, _, _, _, _, h => by omega
 | f + 1, acc, l, m, l0, nm, hm, hN, hs, hb, h93, hf => by
  have hv := hV m l (by rw [hm]; simp; omega) hs hb h93
  simp only [liL]
  cases h1 : vaM N l with
  | no r y => rw [h1] at hv; exact hv
  | ok v r =>
   rw [h1] at hv
   obtain ⟨m1, hB, e1⟩ := hv
   rw [hm] at hB
   obtain ⟨s5, l5⟩ := bh_push hB
   have hrl := va_len N l v r h1
   have e2 := run_sk (m := m1) (by omega) r
   have e12 := e1.trans e2
   have hnb := sk_nob r
   have hsl := skB_le r
   dsimp only
   cases hr : skB r with
   | nil =>
    rw [hr] at e12
    exact ⟨m1, s5, l5, e12, fun c t e => (by cases e), fun c t e => (by cases e)⟩
   | cons c r2 =>
    rw [hr] at e12 hnb hsl
    simp only [List.length_cons] at hsl
    dsimp only
    by_cases hc : c = 44
    ·subst hc
     rw [if_pos rfl]
     have e3 : nextM m1 44 = (0, { m1 with st := 0 }) := by
      rw [next5 s5]
      unfold endsM
      rw [if_neg (by decide), if_neg (by rw [l5]; simp)]
      simp only [l5, topO_last]
      simp [addV]
     rw [e12, runJ_ok r2 e3, run_sk (m := { m1 with st := 0 }) (by show 0 ≤ 5; omega) r2]
     have := skB_le r2
     exact run_li N hV f (acc ++ [v]) (skB r2) { m1 with st := 0 } l0 nm (by show m1.l = _; rw [l5]; simp [addV]) hN (by show 0 ≤ 1; omega) (sk_nob r2) (fun k => by cases k) (by omega)
    ·rw [if_neg hc]
     exact ⟨m1, s5, by rw [l5]; simp [addV], e12, hnb, fun c' t e => by cases e; exact hc⟩
/-- The bracket that closes. -/
theorem run_close {m : Mc} {l0 : List Opn} {o : Opn} (h5 : m.st = 5) (hl : m.l = l0 ++ [o]) (cl : UInt8) (hk : (cl = 93 ∧ o.k = 4) ∨ (cl = 125 ∧ o.k = 5)) (r : List UInt8) (hn : NoB r) (h44 : ∀ c t, r = c :: t → c ≠ 44) :
  match tkM cl r with
  | .no r2 y => runJ m r = .no r2 y
  | .ok _ r2 => ∃ m', Bh l0 o.v m' ∧ runJ m r = runJ m' r2 := by
 cases r with
 | nil =>
  simp only [tkM]
  rw [runJ_nil]
  exact fin_no (.inl (by rw [hl]; simp))
 | cons c t =>
  have hb := hn c t rfl
  have hc := h44 c t rfl
  simp only [tkM]
  have e0 : nextM m c = if (c = 93 ∧ o.k = 4) ∨ (c = 125 ∧ o.k = 5) then (0, doneM { m with l := l0 } o.v) else (40, m) := by
   rw [next5 h5]
   unfold endsM
   rw [if_neg (by rw [hb]; simp), if_neg (by rw [hl]; simp)]
   simp only [hl, topO_last, List.dropLast_concat, hc, false_and, if_false]
  by_cases e : c = cl
  ·rw [if_pos e]
   rw [if_pos (by rw [e]; exact hk)] at e0
   exact ⟨_, doneM_bh { m with l := l0 } o.v, runJ_ok t e0⟩
  ·rw [if_neg e]
   have : ¬ ((c = 93 ∧ o.k = 4) ∨ (c = 125 ∧ o.k = 5)) := by
    rintro (⟨k1, k2⟩ | ⟨k1, k2⟩)
    ·rcases hk with ⟨k3, _⟩ | ⟨_, k4⟩
     ·exact e (k1.trans k3.symm)
     ·omega
    ·rcases hk with ⟨_, k4⟩ | ⟨k3, _⟩
     ·omega
     ·exact e (k1.trans k3.symm)
   rw [if_neg this] at e0
   exact runJ_no t e0 (by omega)
/-- A member. -/
theorem run_mb (N : Nat) (hV : VaS N) (ns : List (List UInt8)) (is : List Js) (l : List UInt8) (m : Mc) (l0 : List Opn) (nm : List UInt8) (hm : m.l = l0 ++ [⟨5, ns, is, nm⟩]) (hN : l0.length + 1 + N = 16) (hs : m.st = 2 ∨ m.st = 3) (hb : NoB l) (h125 : m.st = 3 → ∀ c r, l = c :: r → c ≠ 125) :
  match mbM (vaM N) ns l with
  | .no r y => runJ m l = .no r y
  | .ok x r => ∃ m', m'.st = 5 ∧ m'.l = l0 ++ [⟨5, ns ++ [x.1], is ++ [x.2], x.1⟩] ∧ runJ m l = runJ m' r ∧ r.length < l.length := by
 unfold mbM uqM
 cases l with
 | nil =>
  simp only [tkM]
  rw [runJ_nil]
  exact fin_no (.inl (by rw [hm]; simp))
 | cons c l =>
  have hbc := hb c l rfl
  simp only [tkM]
  by_cases hc : c = 34
  ·have e1 : nextM m c = (0, { m with st := 9, text := [], isKey := true }) := by
    subst hc
    unfold nextM
    rcases hs with k | k <;> simp [k, show blB4 34 = false from by decide]
   rw [if_pos hc]
   dsimp only
   have h1 := run_uql (l.length + 1) [] l { m with st := 9, text := [], isKey := true } rfl rfl (by omega)
   rw [runJ_ok l e1]
   cases hu : uqL (l.length + 1) [] l with
   | no r y => rw [hu] at h1; exact h1
   | ok t r =>
    rw [hu] at h1
    obtain ⟨m1, r', ⟨w1, w2, w3, w4⟩, rfl, hrl, e2⟩ := h1
    dsimp only
    have wl : m1.l = l0 ++ [⟨5, ns, is, nm⟩] := w4.trans hm
    by_cases hin : t ∈ ns
    ·rw [if_pos hin, e2]
     refine runJ_no r' (m' := m1) ?_ (by omega)
     unfold nextM withinM
     simp [w1, w2, w3, wl, topO_last, hin]
    ·rw [if_neg hin]
     have e3 : nextM m1 34 = (0, { m1 with l := l0 ++ [⟨5, ns, is, t⟩], st := 4 }) := by
      unfold nextM withinM
      simp [w1, w2, w3, wl, topO_last, hin, upd_last]
     simp only [if_true]
     rw [e2, runJ_ok r' e3, run_sk (m := { m1 with l := l0 ++ [⟨5, ns, is, t⟩], st := 4 }) (by show 4 ≤ 5; omega) r']
     have hnb := sk_nob r'
     have hsl := skB_le r'
     cases hr : skB r' with
     | nil =>
      simp only
      rw [runJ_nil]
      exact fin_no (.inl (by simp))
     | cons d r3 =>
      rw [hr] at hnb hsl
      simp only [List.length_cons] at hsl hrl
      simp only
      have hbd := hnb d r3 rfl
      by_cases hd : d = 58
      ·have e4 : nextM { m1 with l := l0 ++ [⟨5, ns, is, t⟩], st := 4 } d = (0, { m1 with l := l0 ++ [⟨5, ns, is, t⟩], st := 0 }) := by
        unfold nextM
        simp [hd]
       rw [if_pos hd, runJ_ok r3 e4, run_sk (m := { m1 with l := l0 ++ [⟨5, ns, is, t⟩], st := 0 }) (by show 0 ≤ 5; omega) r3]
       have hv := hV { m1 with l := l0 ++ [⟨5, ns, is, t⟩], st := 0 } (skB r3) (by simp; omega) (by show 0 ≤ 1; omega) (sk_nob r3) (fun k => by cases k)
       dsimp only
       cases h2 : vaM N (skB r3) with
       | no r y => rw [h2] at hv; exact hv
       | ok v r4 =>
        rw [h2] at hv
        obtain ⟨m2, hB, e5⟩ := hv
        obtain ⟨s5, l5⟩ := bh_push hB
        have := va_len N _ v r4 h2
        have := skB_le r3
        exact ⟨m2, s5, by rw [l5]; simp [addV], e5, by simp only [List.length_cons]; omega⟩
      ·rw [if_neg hd]
       refine runJ_no r3 (m' := { m1 with l := l0 ++ [⟨5, ns, is, t⟩], st := 4 }) ?_ (by omega)
       unfold nextM
       simp [hd, hbd]
  ·rw [if_neg hc]
   refine runJ_no l (m' := m) ?_ (by omega)
   unfold nextM
   rcases hs with k | k
   ·simp [k, hbc, hc]
   ·simp [k, hbc, hc, h125 k c l rfl]
/-- An object's members. -/
theorem run_ob (N : Nat) (hV : VaS N) : ∀ (f : Nat) (ns : List (List UInt8)) (is : List Js) (l : List UInt8) (m : Mc) (l0 : List Opn) (nm : List UInt8), m.l = l0 ++ [⟨5, ns, is, nm⟩] → l0.length + 1 + N = 16 → (m.st = 2 ∨ m.st = 3) → NoB l → (m.st = 3 → ∀ c r, l = c :: r → c ≠ 125) → l.length < f →
  match obL (vaM N) f ns is l with
  | .no r y => runJ m l = .no r y
  | .ok x r => ∃ m' nm', m'.st = 5 ∧ m'.l = l0 ++ [⟨5, x.1, x.2, nm'⟩] ∧ runJ m l = runJ m' r ∧ NoB r ∧ (∀ c t, r = c :: t → c ≠ 44)
 | 0, ns, is, l, m, l0, nm, _, _, _, _, _, h => by omega
 | f + 1, ns, is, l, m, l0, nm, hm, hN, hs, hb, h125, hf => by
  have hv := run_mb N hV ns is l m l0 nm hm hN hs hb h125
  simp only [obL]
  cases h1 : mbM (vaM N) ns l with
  | no r y => rw [h1] at hv; exact hv
  | ok x r =>
   rw [h1] at hv
   obtain ⟨m1, s5, l5, e1, hrl⟩ := hv
   have e12 := e1.trans (run_sk (m := m1) (by omega) r)
   have hnb := sk_nob r
   have hsl := skB_le r
   dsimp only
   cases hr : skB r with
   | nil =>
    rw [hr] at e12
    exact ⟨m1, _, s5, l5, e12, fun c t e => (by cases e), fun c t e => (by cases e)⟩
   | cons c r2 =>
    rw [hr] at e12 hnb hsl
    simp only [List.length_cons] at hsl
    dsimp only
    by_cases hc : c = 44
    ·subst hc
     rw [if_pos rfl]
     have e3 : nextM m1 44 = (0, { m1 with st := 2 }) := by
      rw [next5 s5]
      unfold endsM
      rw [if_neg (by decide), if_neg (by rw [l5]; simp)]
      simp only [l5, topO_last]
      simp
     rw [e12, runJ_ok r2 e3, run_sk (m := { m1 with st := 2 }) (by show 2 ≤ 5; omega) r2]
     have := skB_le r2
     exact run_ob N hV f (ns ++ [x.1]) (is ++ [x.2]) (skB r2) { m1 with st := 2 } l0 x.1 l5 hN (.inl rfl) (sk_nob r2) (fun k => by cases k) (by omega)
    ·rw [if_neg hc]
     exact ⟨m1, _, s5, l5, e12, hnb, fun c' t e => by cases e; exact hc⟩
theorem next_begins {m : Mc} {c : UInt8} (hs : m.st ≤ 1) (hb : blB4 c = false) (h93 : m.st = 1 → c ≠ 93) : nextM m c = beginsM m c := by
 have : m.st = 0 ∨ m.st = 1 := by omega
 unfold nextM
 rcases this with k | k
 ·simp [k, hb]
 ·simp [k, hb, h93 k]
theorem run_same {m m' : Mc} {c : UInt8} (h : nextM m c = nextM m' c) (r : List UInt8) : runJ m (c :: r) = runJ m' (c :: r) := by
 rw [runJ, runJ, h]
def mmT {α : Type} (cl : UInt8) (x : Rs α) : Rs α := match x with
 | .no r y => .no r y
 | .ok a r => match tkM cl r with
  | .no r2 y => .no r2 y
  | .ok _ r2 => .ok a r2
theorem mm_nil {α : Type} {cl : UInt8} {z : α} {L : List UInt8 → Rs α} {l : List UInt8} (h : skB l = []) : mmM cl z L l = mmT cl (L []) := by unfold mmM; rw [h]; rfl
theorem mm_hit {α : Type} {cl : UInt8} {z : α} {L : List UInt8 → Rs α} {l t : List UInt8} (h : skB l = cl :: t) : mmM cl z L l = .ok z t := by unfold mmM; rw [h]; simp [tkM]
theorem mm_go {α : Type} {cl : UInt8} {z : α} {L : List UInt8 → Rs α} {l t : List UInt8} {c : UInt8} (h : skB l = c :: t) (hc : c ≠ cl) : mmM cl z L l = mmT cl (L (c :: t)) := by unfold mmM; rw [h]; simp only [if_neg hc]; rfl
/-- A value, over those one deeper. -/
theorem run_va (N : Nat) (V : Option (List UInt8 → Rs Js)) (hV : ∀ Vf, V = some Vf → ∃ M, N = M + 1 ∧ Vf = vaM M ∧ VaS M) (hV0 : V = none → N = 0) (m : Mc) (l : List UInt8) (hl : m.l.length + N = 16) (hs : m.st ≤ 1) (hb : NoB l) (h93 : m.st = 1 → ∀ c r, l = c :: r → c ≠ 93) :
  match vaF V l with
  | .no r y => runJ m l = .no r y
  | .ok v r => ∃ m', Bh m.l v m' ∧ runJ m l = runJ m' r := by
 cases l with
 | nil =>
  simp only [vaF]
  rw [runJ_nil]
  exact fin_no (.inr (by omega))
 | cons c r =>
  have hbc := hb c r rfl
  have e0 := next_begins hs hbc (fun k => h93 k c r rfl)
  simp only [vaF]
  by_cases h123 : c = 123
  ·subst h123
   rw [if_pos rfl]
   cases V with
   | none =>
    have hN := hV0 rfl
    refine runJ_no r (m' := m) ?_ (by omega)
    rw [e0]
    unfold beginsM
    rw [if_pos (.inr rfl), if_pos (by omega)]
   | some Vf =>
    obtain ⟨M, rfl, rfl, hM⟩ := hV Vf rfl
    have e1 : nextM m 123 = (0, { m with l := m.l ++ [⟨5, [], [], []⟩], st := 3 }) := by
     rw [e0]
     unfold beginsM
     rw [if_pos (.inr rfl), if_neg (by omega), if_neg (by decide)]
    dsimp only
    rw [runJ_ok r e1, run_sk (m := { m with l := m.l ++ [⟨5, [], [], []⟩], st := 3 }) (by show 3 ≤ 5; omega) r]
    have hnb := sk_nob r
    have main : ∀ (l' : List UInt8), NoB l' → (∀ c t, l' = c :: t → c ≠ 125) →
      match mmT 125 (obL (vaM M) (l'.length + 1) [] [] l') with
      | .no r y => runJ { m with l := m.l ++ [⟨5, [], [], []⟩], st := 3 } l' = .no r y
      | .ok x r => ∃ m', Bh m.l (.mk 5 0 [] x.1 x.2) m' ∧ runJ { m with l := m.l ++ [⟨5, [], [], []⟩], st := 3 } l' = runJ m' r := by
     intro l' hn' hcl
     have h1 := run_ob M hM (l'.length + 1) [] [] l' { m with l := m.l ++ [⟨5, [], [], []⟩], st := 3 } m.l [] rfl (by omega) (.inr rfl) hn' (fun _ => hcl) (by omega)
     unfold mmT
     cases ho : obL (vaM M) (l'.length + 1) [] [] l' with
     | no r y => rw [ho] at h1; exact h1
     | ok x r1 =>
      rw [ho] at h1
      obtain ⟨m1, nm', s5, l5, e2, hn1, h44⟩ := h1
      have h2 := run_close s5 l5 125 (.inr ⟨rfl, rfl⟩) r1 hn1 h44
      dsimp only
      cases ht : tkM 125 r1 with
      | no r2 y => rw [ht] at h2; exact e2.trans h2
      | ok u r2 =>
       rw [ht] at h2
       obtain ⟨m2, hB, e3⟩ := h2
       exact ⟨m2, hB, e2.trans e3⟩
    cases hr : skB r with
    | nil =>
     have h1 := main [] (fun c t e => by cases e) (fun c t e => by cases e)
     rw [mm_nil hr]
     cases hX : mmT 125 (obL (vaM M) (([] : List UInt8).length + 1) [] [] []) with
     | no r2 y => rw [hX] at h1; exact h1
     | ok x r2 => rw [hX] at h1; exact h1
    | cons d t =>
     rw [hr] at hnb
     by_cases hd : d = 125
     ·subst hd
      rw [mm_hit hr]
      have e2 : nextM { m with l := m.l ++ [⟨5, [], [], []⟩], st := 3 } 125 = (0, doneM { m with st := 3 } (.mk 5 0 [] [] [])) := by
       unfold nextM endsM
       rw [if_neg (by simp), if_pos (by simp), if_neg (by decide), if_pos ⟨rfl, rfl⟩, if_neg (by decide), if_neg (by simp)]
       simp only [topO_last, List.dropLast_concat]
       rw [if_neg (by simp), if_neg (by decide), if_pos (by simp)]
       rfl
      exact ⟨_, doneM_bh { m with st := 3 } (.mk 5 0 [] [] []), runJ_ok t e2⟩
     ·rw [mm_go hr hd]
      have h1 := main (d :: t) hnb (fun c' t' e => by cases e; exact hd)
      cases hX : mmT 125 (obL (vaM M) ((d :: t).length + 1) [] [] (d :: t)) with
      | no r2 y => rw [hX] at h1; exact h1
      | ok x r2 => rw [hX] at h1; exact h1
  rw [if_neg h123]
  by_cases h91 : c = 91
  ·subst h91
   rw [if_pos rfl]
   cases V with
   | none =>
    have hN := hV0 rfl
    refine runJ_no r (m' := m) ?_ (by omega)
    rw [e0]
    unfold beginsM
    rw [if_pos (.inl rfl), if_pos (by omega)]
   | some Vf =>
    obtain ⟨M, rfl, rfl, hM⟩ := hV Vf rfl
    have e1 : nextM m 91 = (0, { m with l := m.l ++ [⟨4, [], [], []⟩], st := 1 }) := by
     rw [e0]
     unfold beginsM
     rw [if_pos (.inl rfl), if_neg (by omega), if_pos rfl]
    dsimp only
    rw [runJ_ok r e1, run_sk (m := { m with l := m.l ++ [⟨4, [], [], []⟩], st := 1 }) (by show 1 ≤ 5; omega) r]
    have hnb := sk_nob r
    have main : ∀ (l' : List UInt8), NoB l' → (∀ c t, l' = c :: t → c ≠ 93) →
      match mmT 93 (liL (vaM M) (l'.length + 1) [] l') with
      | .no r y => runJ { m with l := m.l ++ [⟨4, [], [], []⟩], st := 1 } l' = .no r y
      | .ok x r => ∃ m', Bh m.l (.mk 4 0 [] [] x) m' ∧ runJ { m with l := m.l ++ [⟨4, [], [], []⟩], st := 1 } l' = runJ m' r := by
     intro l' hn' hcl
     have h1 := run_li M hM (l'.length + 1) [] l' { m with l := m.l ++ [⟨4, [], [], []⟩], st := 1 } m.l [] rfl (by omega) (Nat.le_refl _) hn' (fun _ => hcl) (by omega)
     unfold mmT
     cases ho : liL (vaM M) (l'.length + 1) [] l' with
     | no r y => rw [ho] at h1; exact h1
     | ok x r1 =>
      rw [ho] at h1
      obtain ⟨m1, s5, l5, e2, hn1, h44⟩ := h1
      have h2 := run_close s5 l5 93 (.inl ⟨rfl, rfl⟩) r1 hn1 h44
      dsimp only
      cases ht : tkM 93 r1 with
      | no r2 y => rw [ht] at h2; exact e2.trans h2
      | ok u r2 =>
       rw [ht] at h2
       obtain ⟨m2, hB, e3⟩ := h2
       exact ⟨m2, hB, e2.trans e3⟩
    cases hr : skB r with
    | nil =>
     have h1 := main [] (fun c t e => by cases e) (fun c t e => by cases e)
     rw [mm_nil hr]
     cases hX : mmT 93 (liL (vaM M) (([] : List UInt8).length + 1) [] []) with
     | no r2 y => rw [hX] at h1; exact h1
     | ok x r2 => rw [hX] at h1; exact h1
    | cons d t =>
     rw [hr] at hnb
     by_cases hd : d = 93
     ·subst hd
      rw [mm_hit hr]
      have e2 : nextM { m with l := m.l ++ [⟨4, [], [], []⟩], st := 1 } 93 = (0, doneM { m with st := 1 } (.mk 4 0 [] [] [])) := by
       unfold nextM endsM
       rw [if_pos (by simp), if_neg (by decide), if_pos ⟨rfl, rfl⟩, if_neg (by decide), if_neg (by simp)]
       simp only [topO_last, List.dropLast_concat]
       rw [if_neg (by simp), if_neg (by decide), if_pos (by simp)]
       rfl
      exact ⟨_, doneM_bh { m with st := 1 } (.mk 4 0 [] [] []), runJ_ok t e2⟩
     ·rw [mm_go hr hd]
      have h1 := main (d :: t) hnb (fun c' t' e => by cases e; exact hd)
      cases hX : mmT 93 (liL (vaM M) ((d :: t).length + 1) [] (d :: t)) with
      | no r2 y => rw [hX] at h1; exact h1
      | ok x r2 => rw [hX] at h1; exact h1
  rw [if_neg h91]
  have eb : nextM m c = (if c = 34 then (0, { m with st := 9, text := [], isKey := false })
    else if c = 110 then (0, { m with st := 6, v := Js.nul, rest := [117, 108, 108] })
    else if c = 116 then (0, { m with st := 6, v := .mk 1 1 [] [] [], rest := [114, 117, 101] })
    else if c = 102 then (0, { m with st := 6, v := .mk 1 0 [] [] [], rest := [97, 108, 115, 101] })
    else if c = 45 then (0, { m with st := 8, neg := true, num := 0 })
    else if dgB4 c then digitM { m with neg := false, num := 0 } c
    else (40, m)) := by
   rw [e0]
   unfold beginsM
   rw [if_neg (by rintro (k | k); exact h91 k; exact h123 k)]
  by_cases h34 : c = 34
  ·subst h34
   rw [if_pos rfl] at eb
   rw [if_pos rfl]
   unfold uqM
   simp only [tkM, if_true]
   rw [runJ_ok r eb]
   have h1 := run_uql (r.length + 1) [] r { m with st := 9, text := [], isKey := false } rfl rfl (by omega)
   cases hu : uqL (r.length + 1) [] r with
   | no r2 y => rw [hu] at h1; exact h1
   | ok t r2 =>
    rw [hu] at h1
    obtain ⟨m1, r', ⟨w1, w2, w3, w4⟩, rfl, hrl, e2⟩ := h1
    simp only [if_true]
    have e3 : nextM m1 34 = (0, doneM m1 (.mk 3 0 t [] [])) := by
     unfold nextM withinM
     simp [w1, w2, w3]
    have hB := doneM_bh m1 (.mk 3 0 t [] [])
    rw [w4] at hB
    exact ⟨_, hB, e2.trans (runJ_ok r' e3)⟩
  rw [if_neg h34] at eb ⊢
  by_cases hnum : c = 45 ∨ dgB4 c = true
  ·rw [if_pos hnum]
   unfold nuM
   dsimp only
   by_cases h45 : c = 45
   ·subst h45
    rw [if_neg (by decide), if_neg (by decide), if_neg (by decide), if_pos rfl] at eb
    have h1 := run_dgm r { m with st := 8, neg := true, num := 0 } (by show 8 ≠ 7; omega) rfl (fun c hc => by unfold nextM figureM; simp [hc]) (fun c t e hc => by
     refine runJ_no t (m' := { m with st := 8, neg := true, num := 0 }) ?_ (by omega)
     unfold nextM figureM; simp [hc]) (fun _ => fin_no (.inr ⟨by show 8 ≠ 5; omega, by show 8 ≠ 7; omega, by show 8 ≠ 14; omega⟩))
    simp only [beq_self_eq_true, if_true, List.drop_succ_cons, List.drop_zero]
    rw [runJ_ok r eb]
    unfold NuE mxN ngI at h1
    simp only [if_true] at h1
    cases hd : dgM 9223372036854775808 r with
    | no r2 y => rw [hd] at h1; exact h1
    | ok n r2 =>
     rw [hd] at h1
     dsimp only at h1 ⊢
     by_cases hf : fracB r2 = true
     ·rw [if_pos hf] at h1 ⊢; exact h1
     ·rw [if_neg hf] at h1 ⊢; exact h1
   ·have hdg : dgB4 c = true := by rcases hnum with k | k; exact absurd k h45; exact k
    have q1 : c ≠ 110 ∧ c ≠ 116 ∧ c ≠ 102 := by refine ⟨?_, ?_, ?_⟩ <;> (intro k; rw [k] at hdg; revert hdg; decide)
    rw [if_neg q1.1, if_neg q1.2.1, if_neg q1.2.2, if_neg h45, if_pos hdg] at eb
    have hbeq : (c == 45) = false := by simpa using h45
    have hno : ∀ c', dgB4 c' = true → nextM { m with neg := false, num := 0 } c' = digitM { m with neg := false, num := 0 } c' := fun c' hc' => by
     have q0 : blB4 c' = false := by
      cases hbl : blB4 c' with
      | false => rfl
      | true => rw [bl_dg hbl] at hc'; cases hc'
     have q : c' ≠ 93 ∧ c' ≠ 91 ∧ c' ≠ 123 ∧ c' ≠ 34 ∧ c' ≠ 110 ∧ c' ≠ 116 ∧ c' ≠ 102 ∧ c' ≠ 45 := by refine ⟨?_, ?_, ?_, ?_, ?_, ?_, ?_, ?_⟩ <;> (intro k; rw [k] at hc'; revert hc'; decide)
     rw [next_begins (m := { m with neg := false, num := 0 }) hs q0 (fun _ => q.1)]
     unfold beginsM
     simp [q, hc']
    have h1 := run_dgm (c :: r) { m with neg := false, num := 0 } (by show m.st ≠ 7; omega) rfl hno (fun c' t e hc' => by cases e; rw [hdg] at hc'; cases hc') (fun e => by cases e)
    rw [run_same (m' := { m with neg := false, num := 0 }) (eb.trans (hno c hdg).symm) r]
    simp only [hbeq, Bool.false_eq_true, if_false]
    unfold NuE mxN ngI at h1
    simp only [Bool.false_eq_true, if_false] at h1
    cases hd : dgM 9223372036854775807 (c :: r) with
    | no r2 y => rw [hd] at h1; exact h1
    | ok n r2 =>
     rw [hd] at h1
     dsimp only at h1 ⊢
     by_cases hf : fracB r2 = true
     ·rw [if_pos hf] at h1 ⊢; exact h1
     ·rw [if_neg hf] at h1 ⊢; exact h1
  rw [if_neg hnum]
  have h45 : c ≠ 45 := fun k => hnum (.inl k)
  have hdg : ¬ dgB4 c = true := fun k => hnum (.inr k)
  by_cases h116 : c = 116
  ·subst h116
   rw [if_neg (by decide), if_pos rfl] at eb
   rw [if_pos rfl, runJ_ok r eb]
   have h1 := run_word (.mk 1 1 [] [] []) [114, 117, 101] r { m with st := 6, v := .mk 1 1 [] [] [], rest := [114, 117, 101] } rfl rfl (by simp) rfl
   have ew : wdM [116, 114, 117, 101] (116 :: r) = wdM [114, 117, 101] r := by rw [wdM, if_pos rfl]
   rw [ew]
   cases hw : wdM [114, 117, 101] r with
   | no r2 y => rw [hw] at h1; exact h1
   | ok u r2 => rw [hw] at h1; exact h1
  rw [if_neg h116]
  by_cases h102 : c = 102
  ·subst h102
   rw [if_neg (by decide), if_neg (by decide), if_pos rfl] at eb
   rw [if_pos rfl, runJ_ok r eb]
   have h1 := run_word (.mk 1 0 [] [] []) [97, 108, 115, 101] r { m with st := 6, v := .mk 1 0 [] [] [], rest := [97, 108, 115, 101] } rfl rfl (by simp) rfl
   have ew : wdM [102, 97, 108, 115, 101] (102 :: r) = wdM [97, 108, 115, 101] r := by rw [wdM, if_pos rfl]
   rw [ew]
   cases hw : wdM [97, 108, 115, 101] r with
   | no r2 y => rw [hw] at h1; exact h1
   | ok u r2 => rw [hw] at h1; exact h1
  rw [if_neg h102]
  by_cases h110 : c = 110
  ·subst h110
   rw [if_pos rfl] at eb
   rw [if_pos rfl, runJ_ok r eb]
   have h1 := run_word Js.nul [117, 108, 108] r { m with st := 6, v := Js.nul, rest := [117, 108, 108] } rfl rfl (by simp) rfl
   have ew : wdM [110, 117, 108, 108] (110 :: r) = wdM [117, 108, 108] r := by rw [wdM, if_pos rfl]
   rw [ew]
   cases hw : wdM [117, 108, 108] r with
   | no r2 y => rw [hw] at h1; exact h1
   | ok u r2 => rw [hw] at h1; exact h1
  rw [if_neg h110]
  rw [if_neg h110, if_neg h116, if_neg h102, if_neg h45, if_neg hdg] at eb
  exact runJ_no r eb (by omega)
theorem vas : ∀ N, VaS N
 | 0 => fun m l hl hs hb h93 => run_va 0 none (fun Vf e => by cases e) (fun _ => rfl) m l hl hs hb h93
 | N + 1 => fun m l hl hs hb h93 => run_va (N + 1) (some (vaM N)) (fun Vf e => ⟨N, rfl, (Option.some.inj e).symm, vas N⟩) (fun e => by cases e) m l hl hs hb h93
/-- The document's Parse. -/
def psR (T : List UInt8) : Js × Nat × Nat :=
 if 65536 < T.length then (Js.nul, 0, 4)
 else match runJ mc0 T with
  | .no r y => (Js.nul, T.length - r.length, y)
  | .ok v _ => (v, 0, 0)
theorem psR_eq (T : List UInt8) : psR T = psM T := by
 unfold psR psM
 by_cases h : 65536 < T.length
 ·rw [if_pos h, if_pos h]
 ·rw [if_neg h, if_neg h]
  have e1 := run_sk (m := mc0) (by decide) T
  have h1 := vas 16 mc0 (skB T) rfl (by decide) (sk_nob T) (fun k => by cases k)
  cases hv : vaM 16 (skB T) with
  | no r y => rw [hv] at h1; rw [e1, h1]
  | ok v r =>
   rw [hv] at h1
   obtain ⟨m', ⟨s5, hl, _⟩, e2⟩ := h1
   obtain ⟨k1, k2⟩ := hl rfl
   have e3 := run_sk (m := m') (by omega) r
   rw [e1, e2, e3]
   cases hr : skB r with
   | nil =>
    have e4 : runJ m' [] = .ok v [] := by
     rw [runJ_nil]
     unfold finM
     simp [k1, k2, s5]
    rw [e4]
    simp only [hr]
   | cons c r2 =>
    have hb := sk_nob r c r2 hr
    have e4 : runJ m' (c :: r2) = .no (c :: r2) 40 := by
     refine runJ_no r2 (m' := m') ?_ (by omega)
     rw [next5 s5]
     unfold endsM
     simp [hb, k1]
    rw [e4]
    simp only [hr]
#print axioms psR_eq
end Go.Proofs.YtbnbngmnoffmkaaGreatDoor
end
section
set_option linter.unusedVariables false
set_option maxRecDepth 1000000
namespace Go.Proofs.YtbnbngmnoffmkaaGreatDoor
open Go.RowKit Go.Extern.Stop Go.Stop Go.Extern

/-- Two values that tell j are equal. -/
def EqC (j : Js) : Prop := ∀ (S : Nat → Prop) (v v' : Value) (w : World), JV w S v j → JV w S v' j → (∀ k, S k → k < w.heap.size) → Calls Tryz.prog 8 #[v, v'] w fun e w' => e = .returned (.bool true) ∧ Hid (Below w.heap.size w w')
set_option maxHeartbeats 8000000 in
theorem equal_core (k n : Int) (t : List UInt8) (ns : List (List UInt8)) (is : List Js) (hrec : ∀ x ∈ is, EqC x) : EqC (.mk k n t ns is) := by
 intro S v v' w hJ hJ' hS
 simp only [JV] at hJ hJ'
 obtain ⟨a1, c1, a2, c2, rfl, hN, hnc, hnm, _, hic, him, _, hIt⟩ := hJ
 obtain ⟨b1, d1, b2, d2, rfl, hN', hnc', _, _, hic', _, _, hIt'⟩ := hJ'
 obtain ⟨V, hV⟩ : ∃ V, V = w.heap.size := ⟨_, rfl⟩
 obtain ⟨X, hX⟩ : ∃ X, X = w.heap.size + 1 := ⟨_, rfl⟩
 obtain ⟨W, hW⟩ : ∃ W, W = (w.alloc (.cells #[.int .i64 k, .int .i64 n, .string (str t), .slice a1 ns.length c1, .slice a2 is.length c2] 25)).alloc (.cells #[.int .i64 k, .int .i64 n, .string (str t), .slice b1 ns.length d1, .slice b2 is.length d2] 25) := ⟨_, rfl⟩
 have bW : Below w.heap.size w W := by rw [hW]; exact ((Below.refl _ _).alloc (Nat.le_refl _) _).alloc (by simp) _
 have sW : W.heap.size = V + 2 := by rw [hW, hV]; simp
 have rV : W.heap[V]? = some (.cells #[.int .i64 k, .int .i64 n, .string (str t), .slice a1 ns.length c1, .slice a2 is.length c2] 25 (0, 0)) := by rw [hW, hV, heap_alloc_old _ _ (by simp)]; exact heap_alloc_new _ _
 have rX : W.heap[X]? = some (.cells #[.int .i64 k, .int .i64 n, .string (str t), .slice b1 ns.length d1, .slice b2 is.length d2] 25 (0, 0)) := by rw [hW, hX]; exact heap_alloc2_new _ _ _
 have HKV : Hid (∀ u, Below W.heap.size W u → u.heap[V]? = some (.cells #[.int .i64 k, .int .i64 n, .string (str t), .slice a1 ns.length c1, .slice a2 is.length c2] 25 (0, 0))) := fun u hb => (hb.block V (by omega)).trans rV
 have HKX : Hid (∀ u, Below W.heap.size W u → u.heap[X]? = some (.cells #[.int .i64 k, .int .i64 n, .string (str t), .slice b1 ns.length d1, .slice b2 is.length d2] 25 (0, 0))) := fun u hb => (hb.block X (by omega)).trans rX
 have HBw : Hid (∀ u, Below W.heap.size W u → Below w.heap.size w u) := fun u hb => bW.trans (hb.mono bW.size)
 have HN := hide hN
 have HN' := hide hN'
 have HI := hide hIt
 have HI' := hide hIt'
 have HS := hide hS
 have HREC := hide hrec
 obtain ⟨q0, q1, q2, q3, q4⟩ := cells5 rV
 obtain ⟨y0, y1, y2, y3, y4⟩ := cells5 rX
 obtain ⟨m, hm⟩ : ∃ m, m = is.length := ⟨_, rfl⟩
 obtain ⟨g, hg⟩ : ∃ g, g = ns.length := ⟨_, rfl⟩
 rw [← hm, ← hg] at HKV HKX hW ⊢
 rw [← hm] at q4 y4
 rw [← hg] at q3 y3
 have HM := hide hm
 have HG := hide hg
 have hgB : g ≤ 9223372036854775807 := by unfold maxLen at hnm; omega
 have hmB : m ≤ 9223372036854775807 := by unfold maxLen at him; omega
 have e1 : ((str t).toList != (str t).toList) = false := by simp
 clear hN hN' hIt hIt' hS hrec bW rV rX sW hm hg hnc hic hnc' hic' him hnm
 go_enter Tryz.func8, Tryz.ntmps8
 go_upto_region 1 with fail
 rw [← hW, ← hX, ← hV]
 clear hW hV hX
 go_wp2_with fail
 clear q0 q1 q2 q3 q4 y0 y1 y2 y3 y4
 go_loopw [47] (fun v wr => ∃ i : Nat, i ≤ g ∧ v = .int .i64 (i : Int) ∧ Hid (Below W.heap.size W wr)) (fun v _ => g - (intOf v).toNat)
 case atStart => exact ⟨0, Nat.zero_le _, rfl, hide (Below.refl _ _)⟩
 case round =>
  obtain ⟨i, hi, rfl, HB⟩ := hrel
  have HFr := hide (unhide HBw wr (unhide HB))
  obtain ⟨q0, q1, q2, q3, q4⟩ := cells5 (unhide HKV wr (unhide HB))
  obtain ⟨y0, y1, y2, y3, y4⟩ := cells5 (unhide HKX wr (unhide HB))
  by_cases hlt : i < g
  ·have hlt' : (i : Int) < (g : Int) := by omega
   obtain ⟨s, hs⟩ : ∃ s, ns[i]? = some s := ⟨_, List.getElem?_eq_getElem (by rw [← unhide HG]; exact hlt)⟩
   have hne : ns ≠ [] := fun e => by rw [e] at hs; simp at hs
   obtain ⟨B, ob, rfl, hSB, hBc⟩ := ((unhide HN).below (unhide HFr) (unhide HS)) hne
   obtain ⟨D, od, rfl, hSD, hDc⟩ := ((unhide HN').below (unhide HFr) (unhide HS)) hne
   have z1 := hBc i s hs
   have z2 := hDc i s hs
   have e3 : ((str s).toList != (str s).toList) = false := by simp
   have HBd : ∀ n, Hid (Below W.heap.size W (wr.drewN n)) := fun n => hide (bdr4 (unhide HB) n)
   clear hBc hDc hs hne hSB hSD q0 q1 q2 q4 y0 y1 y2 y4
   go_wp2_with fail
   go_quiet (fail)
   go_wp2_with fail
   go_roundw
   case rel => exact ⟨i + 1, by omega, by go_num, HBd _⟩
   case measure => simp [intOf]; omega
  ·have hlt' : ¬ (i : Int) < (g : Int) := by omega
   clear q0 q1 q2 q3 y0 y1 y2 y3 y4 hlt
   go_wp2_with fail
   clear q4
   obtain ⟨u0, hu0⟩ : ∃ u, u = wr := ⟨_, rfl⟩
   rw [← hu0] at HB HFr ⊢
   clear hu0
   go_loopw [65] (fun v wr => ∃ i : Nat, i ≤ m ∧ v = .int .i64 (i : Int) ∧ Hid (Below W.heap.size W wr)) (fun v _ => m - (intOf v).toNat)
   case atStart => exact ⟨0, Nat.zero_le _, rfl, HB⟩
   case round =>
    obtain ⟨p, hp, rfl, HBp⟩ := hrel
    have HFp := hide (unhide HBw wr (unhide HBp))
    obtain ⟨q0, q1, q2, q3, q4⟩ := cells5 (unhide HKV wr (unhide HBp))
    obtain ⟨y0, y1, y2, y3, y4⟩ := cells5 (unhide HKX wr (unhide HBp))
    by_cases hlt2 : p < m
    ·have hlt3 : (p : Int) < (m : Int) := by omega
     obtain ⟨jj, hjj⟩ : ∃ jj, is[p]? = some jj := ⟨_, List.getElem?_eq_getElem (by rw [← unhide HM]; exact hlt2)⟩
     have hel := ((jvs_iff w S a2 is 0).1 (unhide HI) p jj hjj).keep (S' := S) (w' := wr) (fun k hk => ⟨hk, (unhide HFp).block k (unhide HS k hk)⟩)
     have hel' := ((jvs_iff w S b2 is 0).1 (unhide HI') p jj hjj).keep (S' := S) (w' := wr) (fun k hk => ⟨hk, (unhide HFp).block k (unhide HS k hk)⟩)
     rw [Nat.zero_add] at hel hel'
     obtain ⟨B, off, v0, v1, v2, v3, v4, rfl, hSb, g0, g1, g2, g3, g4, hj⟩ := hel
     obtain ⟨D, od, x0, x1, x2, x3, x4, rfl, hSd, f0, f1, f2, f3, f4, hj'⟩ := hel'
     obtain ⟨jk, jn, jt, ja1, jn1, jc1, ja2, jn2, jc2, e⟩ := hj.form
     simp only [Value.agg.injEq, Array.mk.injEq, List.cons.injEq, and_true] at e
     obtain ⟨rfl, rfl, rfl, rfl, rfl⟩ := e
     obtain ⟨ik, inn, it, ia1, in1, ic1, ia2, in2, ic2, e⟩ := hj'.form
     simp only [Value.agg.injEq, Array.mk.injEq, List.cons.injEq, and_true] at e
     obtain ⟨rfl, rfl, rfl, rfl, rfl⟩ := e
     have HC := hide (unhide HREC jj (List.mem_of_getElem? hjj) S _ _ wr.drew (JV.keep (w := wr) (w' := wr.drew) (fun k hk => ⟨hk, rfl⟩) _ _ hj) (JV.keep (w := wr) (w' := wr.drew) (fun k hk => ⟨hk, rfl⟩) _ _ hj') (fun k hk => Nat.lt_of_lt_of_le (unhide HS k hk) (unhide HFp).size))
     clear hjj hj hj' hSb hSd q0 q1 q2 q3 y0 y1 y2 y3
     go_wp2_with fail
     go_region_held3 (fun w' => w'.cell? ⟨V, 4, none⟩ = some (.slice (some ⟨B, off, none⟩) m c2) ∧ w'.cell? ⟨X, 4, none⟩ = some (.slice (some ⟨D, od, none⟩) m d2) ∧ w'.cell? ⟨B, off + p * 5, none⟩ = some (.int .i64 jk) ∧ w'.cell? ⟨B, off + p * 5 + 1, none⟩ = some (.int .i64 jn) ∧ w'.cell? ⟨B, off + p * 5 + 2, none⟩ = some (.string (str jt)) ∧ w'.cell? ⟨B, off + p * 5 + 3, none⟩ = some (.slice ja1 jn1 jc1) ∧ w'.cell? ⟨B, off + p * 5 + 4, none⟩ = some (.slice ja2 jn2 jc2) ∧ w'.cell? ⟨D, od + p * 5, none⟩ = some (.int .i64 ik) ∧ w'.cell? ⟨D, od + p * 5 + 1, none⟩ = some (.int .i64 inn) ∧ w'.cell? ⟨D, od + p * 5 + 2, none⟩ = some (.string (str it)) ∧ w'.cell? ⟨D, od + p * 5 + 3, none⟩ = some (.slice ia1 in1 ic1) ∧ w'.cell? ⟨D, od + p * 5 + 4, none⟩ = some (.slice ia2 in2 ic2)) (first | exact ⟨q4, y4, g0, g1, g2, g3, g4, f0, f1, f2, f3, f4⟩ | exact S5 | assumption | go_keep) ((first | (go_at_call 8; refine (unhide HC).mono ?_; rintro e w5 ⟨rfl, h5⟩; have kk : ∀ (a : Addr) (v : Value), wr.cell? a = some v → w5.cell? a = some v := (fun a v h => ((unhide h5).cell (World.block_lt_of_cell? wr a h)).trans h); have S5 := (And.intro (kk _ _ q4) (And.intro (kk _ _ y4) (And.intro (kk _ _ g0) (And.intro (kk _ _ g1) (And.intro (kk _ _ g2) (And.intro (kk _ _ g3) (And.intro (kk _ _ g4) (And.intro (kk _ _ f0) (And.intro (kk _ _ f1) (And.intro (kk _ _ f2) (And.intro (kk _ _ f3) (kk _ _ f4)))))))))))); clear kk)))
     all_goals
      have HB5 : Hid (Below W.heap.size W w5) := (unhide HBp).trans (((Below.refl _ _).drew).trans ((unhide h5).mono (unhide HBp).size) : Below _ _ _)
      go_wp2_with fail
      go_roundw
      case rel => exact ⟨p + 1, by omega, by go_num, HB5⟩
      case measure => simp [intOf]; omega
    ·have hlt3 : ¬ (p : Int) < (m : Int) := by omega
     clear q0 q1 q2 q3 q4 y0 y1 y2 y3 y4 hlt2
     go_wp2_with fail
     go_ret
     exact ⟨rfl, HFp⟩
#print axioms equal_core
theorem equal_any : ∀ (N : Nat) (j : Js), SizeOf.sizeOf j < N → EqC j
 | 0, j, h => by omega
 | N + 1, .mk k n t ns is, h => equal_core k n t ns is (fun x hx => equal_any N x (by
   have h1 := List.sizeOf_lt_of_mem hx
   simp only [Js.mk.sizeOf_spec] at h
   omega))
theorem equal_same (j : Js) : EqC j := equal_any _ j (Nat.lt_succ_self _)
#print axioms equal_same
end Go.Proofs.YtbnbngmnoffmkaaGreatDoor
end
