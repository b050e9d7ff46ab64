/-
  CHARACTERS: where the first byte stands with which none begins: the model, and two texts one behind the other.; THE DOCUMENT'S OWN FIRST CHARACTER: the shortest of one to four bytes that is the writing of its own number; it is the model's.; THE WALK of the reference's Chars, over what its first gives.; THE WALK of the reference's char.
-/
import Derived.Test.YtpomejeopmfcmaaDoorPkWtesak
import Derived.Lib.DecodeN
import Derived.Test.YtpomejeopmfcmaaDoorPkWtesad
import Derived.WalkSpells
import Derived.WalkLawsBesides
section
set_option linter.unusedVariables false
namespace Go.Proofs.YtpomejeopmfcmaaDoor

def d4 (l : List UInt8) : Nat × Nat := Lib.decodeN l.length (l.getD 0 0).toNat (l.getD 1 0).toNat (l.getD 2 0).toNat (l.getD 3 0).toNat

theorem d4_long (l r : List UInt8) (h : 4 ≤ l.length) : d4 (l ++ r) = d4 l := by
  match l, h with
  | a :: b :: c :: d :: t, _ =>
    have h1 : 1 < (a :: b :: c :: d :: t).length := by simp
    have h2 : 2 < (a :: b :: c :: d :: t).length := by simp
    have h3 : 3 < (a :: b :: c :: d :: t).length := by simp
    have k1 : 1 < ((a :: b :: c :: d :: t) ++ r).length := by simp
    have k2 : 2 < ((a :: b :: c :: d :: t) ++ r).length := by simp
    have k3 : 3 < ((a :: b :: c :: d :: t) ++ r).length := by simp
    unfold d4 Lib.decodeN
    simp only [h1, h2, h3, k1, k2, k3, true_and]
    rfl
theorem d4_size (l : List UInt8) (h : l ≠ []) : 1 ≤ (d4 l).2 ∧ (d4 l).2 ≤ l.length := by
  have hl : 1 ≤ l.length := List.length_pos_iff.2 h
  unfold d4 Lib.decodeN
  repeat' split
  all_goals (simp only; omega)
theorem d4_good (l r : List UInt8) (h : l ≠ []) (hg : d4 l ≠ (65533, 1)) : d4 (l ++ r) = d4 l := by
  by_cases h4 : 4 ≤ l.length
  · exact d4_long l r h4
  · match l, h, h4 with
    | [a], _, _ =>
      unfold d4 Lib.decodeN at hg ⊢
      simp at hg ⊢
      by_cases ha : a.toNat < 128
      · simp [ha]
      · simp [ha] at hg
    | [a, b], _, _ =>
      unfold d4 Lib.decodeN at hg ⊢
      simp at hg ⊢
      by_cases ha : a.toNat < 128
      · simp [ha]
      · by_cases hb : a.toNat / 32 = 6 ∧ b.toNat / 64 = 2
        · simp [ha, hb]
        · simp [ha, hb] at hg
    | [a, b, c], _, _ =>
      unfold d4 Lib.decodeN at hg ⊢
      simp at hg ⊢
      by_cases ha : a.toNat < 128
      · simp [ha]
      · by_cases hb : a.toNat / 32 = 6 ∧ b.toNat / 64 = 2
        · simp [ha, hb]
        · by_cases hc : a.toNat / 16 = 14 ∧ b.toNat / 64 = 2 ∧ c.toNat / 64 = 2
          · simp [ha, hc]
          · simp [ha, hb, hc] at hg
    | a :: b :: c :: d :: t, _, h4 => exact absurd (by simp) h4

def chr (l : List UInt8) : Option Nat :=
  if h : l = [] then none
  else if d4 l = (65533, 1) then some 0
  else (chr (l.drop (d4 l).2)).map (· + (d4 l).2)
termination_by l.length
decreasing_by
  have := d4_size l h
  simp
  omega
theorem chr_nil : chr [] = none := by rw [chr]; simp
theorem chr_bad (l : List UInt8) (h : l ≠ []) (hb : d4 l = (65533, 1)) : chr l = some 0 := by rw [chr, dif_neg h, if_pos hb]
theorem chr_go (l : List UInt8) (h : l ≠ []) (hb : d4 l ≠ (65533, 1)) : chr l = (chr (l.drop (d4 l).2)).map (· + (d4 l).2) := by rw [chr, dif_neg h, if_neg hb]

theorem chr_lt : ∀ (n : Nat) (l : List UInt8), l.length ≤ n → ∀ x, chr l = some x → x < l.length
  | 0, l, hn, x, hx => by
    have : l = [] := List.eq_nil_of_length_eq_zero (by omega)
    subst this
    rw [chr_nil] at hx; cases hx
  | n + 1, l, hn, x, hx => by
    by_cases h : l = []
    · subst h; rw [chr_nil] at hx; cases hx
    · have hs := d4_size l h
      by_cases hb : d4 l = (65533, 1)
      · rw [chr_bad l h hb] at hx
        have := Option.some.inj hx
        have := List.length_pos_iff.2 h
        omega
      · rw [chr_go l h hb] at hx
        cases hc : chr (l.drop (d4 l).2) with
        | none => rw [hc] at hx; cases hx
        | some y =>
          rw [hc] at hx
          have := chr_lt n (l.drop (d4 l).2) (by simp; omega) y hc
          have e := Option.some.inj hx
          simp only [List.length_drop] at this
          simp only at e
          omega
theorem chr_none_append : ∀ (n : Nat) (a b : List UInt8), a.length ≤ n → chr a = none → chr (a ++ b) = (chr b).map (· + a.length)
  | 0, a, b, hn, hx => by
    have : a = [] := List.eq_nil_of_length_eq_zero (by omega)
    subst this
    simp
  | n + 1, a, b, hn, hx => by
    by_cases h : a = []
    · subst h; simp
    · have hs := d4_size a h
      by_cases hb : d4 a = (65533, 1)
      · rw [chr_bad a h hb] at hx; cases hx
      · rw [chr_go a h hb] at hx
        have hx2 : chr (a.drop (d4 a).2) = none := by
          cases hc : chr (a.drop (d4 a).2) with
          | none => rfl
          | some y => rw [hc] at hx; cases hx
        have hg := d4_good a b h hb
        rw [chr_go (a ++ b) (by simp [h]) (by rw [hg]; exact hb), hg, List.drop_append_of_le_length hs.2, chr_none_append n (a.drop (d4 a).2) b (by simp; omega) hx2]
        cases chr b with
        | none => rfl
        | some y => simp; omega
theorem chr_some_append : ∀ (n : Nat) (a b : List UInt8), a.length ≤ n → ∀ x, chr a = some x → chr (a ++ b) = some x ∨ (a.length ≤ x + 3 ∧ (chr (a ++ b) = none ∨ ∃ y, chr (a ++ b) = some y ∧ x < y))
  | 0, a, b, hn, x, hx => by
    have : a = [] := List.eq_nil_of_length_eq_zero (by omega)
    subst this
    rw [chr_nil] at hx; cases hx
  | n + 1, a, b, hn, x, hx => by
    by_cases h : a = []
    · subst h; rw [chr_nil] at hx; cases hx
    · have hs := d4_size a h
      have hne : a ++ b ≠ [] := by simp [h]
      by_cases hb : d4 a = (65533, 1)
      · rw [chr_bad a h hb] at hx
        obtain rfl := Option.some.inj hx
        by_cases h4 : 4 ≤ a.length
        · left
          exact chr_bad _ hne (by rw [d4_long a b h4]; exact hb)
        · by_cases hb2 : d4 (a ++ b) = (65533, 1)
          · left; exact chr_bad _ hne hb2
          · right
            refine ⟨by omega, ?_⟩
            rw [chr_go _ hne hb2]
            have hs2 := d4_size _ hne
            cases chr ((a ++ b).drop (d4 (a ++ b)).2) with
            | none => left; rfl
            | some y => right; exact ⟨y + (d4 (a ++ b)).2, rfl, by omega⟩
      · rw [chr_go a h hb] at hx
        have hg := d4_good a b h hb
        have e : chr (a ++ b) = (chr (a.drop (d4 a).2 ++ b)).map (· + (d4 a).2) := by
          rw [chr_go (a ++ b) hne (by rw [hg]; exact hb), hg, List.drop_append_of_le_length hs.2]
        cases hc : chr (a.drop (d4 a).2) with
        | none => rw [hc] at hx; cases hx
        | some y =>
          rw [hc] at hx
          have ex := Option.some.inj hx
          simp only at ex
          rw [e]
          rcases chr_some_append n (a.drop (d4 a).2) b (by simp; omega) y hc with h1 | ⟨h1, h2 | ⟨z, h2, h3⟩⟩
          · left; rw [h1, ← ex]; rfl
          · right
            simp only [List.length_drop] at h1
            exact ⟨by omega, .inl (by rw [h2]; rfl)⟩
          · right
            simp only [List.length_drop] at h1
            exact ⟨by omega, .inr ⟨z + (d4 a).2, by rw [h2]; rfl, by omega⟩⟩

def chI (l : List UInt8) : Int := match chr l with
  | none => -1
  | some x => (x : Int)
end Go.Proofs.YtpomejeopmfcmaaDoor
end
section
set_option linter.unusedVariables false
namespace Go.Proofs.YtpomejeopmfcmaaDoor

def encL (V : Nat) : List UInt8 :=
  if V < 128 then [UInt8.ofNat V]
  else if V < 2048 then [UInt8.ofNat (192 + V / 64), UInt8.ofNat (128 + V % 64)]
  else if V < 65536 then [UInt8.ofNat (224 + V / 4096), UInt8.ofNat (128 + V / 64 % 64), UInt8.ofNat (128 + V % 64)]
  else [UInt8.ofNat (240 + V / 262144), UInt8.ofNat (128 + V / 4096 % 64), UInt8.ofNat (128 + V / 64 % 64), UInt8.ofNat (128 + V % 64)]
theorem u8eq {x : Nat} (h : x < 256) (a : UInt8) : UInt8.ofNat x = a ↔ x = a.toNat := by
  constructor
  · intro e; rw [← e]; simp; omega
  · intro e; rw [e]; simp

def v2 (a b : Nat) : Nat := a % 32 * 64 + b % 64
def v3 (a b c : Nat) : Nat := a % 16 * 4096 + b % 64 * 64 + c % 64
def v4 (a b c d : Nat) : Nat := a % 8 * 262144 + b % 64 * 4096 + c % 64 * 64 + d % 64

theorem enc1 (a : UInt8) : encL a.toNat = [a] ↔ a.toNat < 128 := by
  have := a.toNat_lt
  unfold encL
  repeat' split
  · simp; omega
  · simp; omega
  · exact absurd ‹¬ a.toNat < 2048› (by omega)
  · exact absurd ‹¬ a.toNat < 2048› (by omega)
theorem enc2 (a b : UInt8) : encL (v2 a.toNat b.toNat) = [a, b] ↔ (128 ≤ v2 a.toNat b.toNat ∧ a.toNat / 32 = 6 ∧ b.toNat / 64 = 2) := by
  have := a.toNat_lt
  have := b.toNat_lt
  have hV : v2 a.toNat b.toNat < 2048 := by unfold v2; omega
  unfold encL
  repeat' split
  · simp; omega
  · simp only [List.cons.injEq, and_true]
    rw [u8eq (by omega), u8eq (by omega)]
    unfold v2 at *
    omega
  all_goals omega
theorem enc3 (a b c : UInt8) : encL (v3 a.toNat b.toNat c.toNat) = [a, b, c] ↔ (2048 ≤ v3 a.toNat b.toNat c.toNat ∧ a.toNat / 16 = 14 ∧ b.toNat / 64 = 2 ∧ c.toNat / 64 = 2) := by
  have := a.toNat_lt
  have := b.toNat_lt
  have := c.toNat_lt
  have hV : v3 a.toNat b.toNat c.toNat < 65536 := by unfold v3; omega
  unfold encL
  repeat' split
  · simp; omega
  · simp; omega
  · simp only [List.cons.injEq, and_true]
    rw [u8eq (by omega), u8eq (by omega), u8eq (by omega)]
    unfold v3 at *
    omega
  all_goals omega
theorem enc4 (a b c d : UInt8) : encL (v4 a.toNat b.toNat c.toNat d.toNat) = [a, b, c, d] ↔ (65536 ≤ v4 a.toNat b.toNat c.toNat d.toNat ∧ a.toNat / 8 = 30 ∧ b.toNat / 64 = 2 ∧ c.toNat / 64 = 2 ∧ d.toNat / 64 = 2) := by
  have := a.toNat_lt
  have := b.toNat_lt
  have := c.toNat_lt
  have := d.toNat_lt
  have hV : v4 a.toNat b.toNat c.toNat d.toNat < 2097152 := by unfold v4; omega
  unfold encL
  repeat' split
  · simp; omega
  · simp; omega
  · simp; omega
  · simp only [List.cons.injEq, and_true]
    rw [u8eq (by omega), u8eq (by omega), u8eq (by omega), u8eq (by omega)]
    unfold v4 at *
    omega

def fval (n : Nat) (l : List UInt8) : Nat := match n with
  | 1 => (l.getD 0 0).toNat
  | 2 => v2 (l.getD 0 0).toNat (l.getD 1 0).toNat
  | 3 => v3 (l.getD 0 0).toNat (l.getD 1 0).toNat (l.getD 2 0).toNat
  | _ => v4 (l.getD 0 0).toNat (l.getD 1 0).toNat (l.getD 2 0).toNat (l.getD 3 0).toNat
def Okn (n : Nat) (l : List UInt8) : Prop := n ≤ l.length ∧ fval n l ≤ 1114111 ∧ ¬ (55296 ≤ fval n l ∧ fval n l < 57344) ∧ encL (fval n l) = l.take n

theorem dec1 (L a b c d : Nat) (ha : a < 256) (hL : 1 ≤ L) : ((Lib.decodeN L a b c d).2 = 1 ∧ Lib.decodeN L a b c d ≠ (65533, 1)) ↔ a < 128 := by
  unfold Lib.decodeN
  repeat' split
  all_goals first
    | exact ⟨fun h => absurd rfl h.2, fun h => absurd h (by omega)⟩
    | exact ⟨fun h => absurd h.1 (by simp), fun h => absurd h (by omega)⟩
    | exact ⟨fun _ => by omega, fun _ => ⟨rfl, fun e => by have e1 := congrArg Prod.fst e; have e2 := congrArg Prod.snd e; dsimp only at e1 e2; omega⟩⟩
theorem dec2 (L a b c d : Nat) (ha : a < 256) (hb : b < 256) : ((Lib.decodeN L a b c d).2 = 2 ∧ Lib.decodeN L a b c d ≠ (65533, 1)) ↔ (2 ≤ L ∧ 128 ≤ v2 a b ∧ a / 32 = 6 ∧ b / 64 = 2) := by
  unfold Lib.decodeN v2
  repeat' split
  all_goals first
    | exact ⟨fun h => absurd rfl h.2, fun h => absurd h (by omega)⟩
    | exact ⟨fun h => absurd h.1 (by simp), fun h => absurd h (by omega)⟩
    | exact ⟨fun _ => by omega, fun _ => ⟨rfl, fun e => by have e1 := congrArg Prod.fst e; have e2 := congrArg Prod.snd e; dsimp only at e1 e2; omega⟩⟩
theorem dec3 (L a b c d : Nat) (ha : a < 256) (hb : b < 256) (hc : c < 256) : ((Lib.decodeN L a b c d).2 = 3 ∧ Lib.decodeN L a b c d ≠ (65533, 1)) ↔ (3 ≤ L ∧ ¬ (55296 ≤ v3 a b c ∧ v3 a b c < 57344) ∧ 2048 ≤ v3 a b c ∧ a / 16 = 14 ∧ b / 64 = 2 ∧ c / 64 = 2) := by
  unfold Lib.decodeN v3
  repeat' split
  all_goals first
    | exact ⟨fun h => absurd rfl h.2, fun h => absurd h (by omega)⟩
    | exact ⟨fun h => absurd h.1 (by simp), fun h => absurd h (by omega)⟩
    | exact ⟨fun _ => by omega, fun _ => ⟨rfl, fun e => by have e1 := congrArg Prod.fst e; have e2 := congrArg Prod.snd e; dsimp only at e1 e2; omega⟩⟩
theorem dec4 (L a b c d : Nat) (ha : a < 256) (hb : b < 256) (hc : c < 256) (hd : d < 256) : ((Lib.decodeN L a b c d).2 = 4 ∧ Lib.decodeN L a b c d ≠ (65533, 1)) ↔ (4 ≤ L ∧ v4 a b c d ≤ 1114111 ∧ 65536 ≤ v4 a b c d ∧ a / 8 = 30 ∧ b / 64 = 2 ∧ c / 64 = 2 ∧ d / 64 = 2) := by
  unfold Lib.decodeN v4
  repeat' split
  all_goals first
    | exact ⟨fun h => absurd rfl h.2, fun h => absurd h (by omega)⟩
    | exact ⟨fun h => absurd h.1 (by simp), fun h => absurd h (by omega)⟩
    | exact ⟨fun _ => by omega, fun _ => ⟨rfl, fun e => by have e1 := congrArg Prod.fst e; have e2 := congrArg Prod.snd e; dsimp only at e1 e2; omega⟩⟩

theorem okn1 (l : List UInt8) (h : l ≠ []) : Okn 1 l ↔ ((d4 l).2 = 1 ∧ d4 l ≠ (65533, 1)) := by
  match l, h with
  | a :: t, _ =>
    have ha := a.toNat_lt
    unfold d4
    rw [dec1 _ _ _ _ _ (UInt8.toNat_lt _) (by simp)]
    unfold Okn fval
    simp only [List.getD_cons_zero, List.length_cons, List.take_succ_cons, List.take_zero]
    rw [enc1]
    omega
theorem okn2 (l : List UInt8) (h : l ≠ []) : Okn 2 l ↔ ((d4 l).2 = 2 ∧ d4 l ≠ (65533, 1)) := by
  unfold d4
  rw [dec2 _ _ _ _ _ (UInt8.toNat_lt _) (UInt8.toNat_lt _)]
  unfold Okn
  match l with
  | [] => simp
  | [a] => simp
  | a :: b :: t =>
    have ha := a.toNat_lt
    have hb := b.toNat_lt
    simp only [fval, List.getD_cons_zero, List.getD_cons_succ, List.length_cons, List.take_succ_cons, List.take_zero]
    rw [enc2]
    have : v2 a.toNat b.toNat < 2048 := by unfold v2; omega
    omega
theorem okn3 (l : List UInt8) (h : l ≠ []) : Okn 3 l ↔ ((d4 l).2 = 3 ∧ d4 l ≠ (65533, 1)) := by
  unfold d4
  rw [dec3 _ _ _ _ _ (UInt8.toNat_lt _) (UInt8.toNat_lt _) (UInt8.toNat_lt _)]
  unfold Okn
  match l with
  | [] => simp
  | [a] => simp
  | [a, b] => simp
  | a :: b :: c :: t =>
    have ha := a.toNat_lt
    have hb := b.toNat_lt
    have hc := c.toNat_lt
    simp only [fval, List.getD_cons_zero, List.getD_cons_succ, List.length_cons, List.take_succ_cons, List.take_zero]
    rw [enc3]
    have : v3 a.toNat b.toNat c.toNat < 65536 := by unfold v3; omega
    omega
theorem okn4 (l : List UInt8) (h : l ≠ []) : Okn 4 l ↔ ((d4 l).2 = 4 ∧ d4 l ≠ (65533, 1)) := by
  unfold d4
  rw [dec4 _ _ _ _ _ (UInt8.toNat_lt _) (UInt8.toNat_lt _) (UInt8.toNat_lt _) (UInt8.toNat_lt _)]
  unfold Okn
  match l with
  | [] => simp
  | [a] => simp
  | [a, b] => simp
  | [a, b, c] => simp
  | a :: b :: c :: d :: t =>
    have ha := a.toNat_lt
    have hb := b.toNat_lt
    have hc := c.toNat_lt
    have hd := d.toNat_lt
    simp only [fval, List.getD_cons_zero, List.getD_cons_succ, List.length_cons, List.take_succ_cons, List.take_zero]
    rw [enc4]
    omega
theorem okn_iff (n : Nat) (l : List UInt8) (h : l ≠ []) (h1 : 1 ≤ n) (h4 : n ≤ 4) : Okn n l ↔ ((d4 l).2 = n ∧ d4 l ≠ (65533, 1)) := by
  match n, h1, h4 with
  | 1, _, _ => exact okn1 l h
  | 2, _, _ => exact okn2 l h
  | 3, _, _ => exact okn3 l h
  | 4, _, _ => exact okn4 l h
  | n + 5, _, h4 => omega
theorem d4_four (l : List UInt8) : (d4 l).2 ≤ 4 := by
  unfold d4 Lib.decodeN
  repeat' split
  all_goals (simp only; omega)
/-- What the document's first gives. -/
def fst (l : List UInt8) : Nat := if d4 l = (65533, 1) then 0 else (d4 l).2
theorem fst_hit (n : Nat) (l : List UInt8) (h : l ≠ []) (h1 : 1 ≤ n) (h4 : n ≤ 4) (ho : Okn n l) : fst l = n := by
  have := (okn_iff n l h h1 h4).1 ho
  unfold fst
  rw [if_neg this.2, this.1]
theorem fst_none (l : List UInt8) (h : l ≠ []) (hn : ∀ n, 1 ≤ n → n ≤ 4 → n ≤ l.length → ¬ Okn n l) : fst l = 0 := by
  unfold fst
  by_cases hb : d4 l = (65533, 1)
  · rw [if_pos hb]
  · have hs := d4_size l h
    have h4 := d4_four l
    exact absurd ((okn_iff (d4 l).2 l h hs.1 h4).2 ⟨rfl, hb⟩) (hn _ hs.1 h4 hs.2)
#print axioms fst_none
end Go.Proofs.YtpomejeopmfcmaaDoor
end
section
set_option linter.unusedVariables false
set_option maxRecDepth 1000000
namespace Go.Proofs.YtpomejeopmfcmaaDoor
open Go.RowKit

/-- What the reference's first gives, at every row that holds something. -/
def FirstSays : Prop := ∀ (b off cap : Nat) (l : List UInt8) (w : World), Row w (some ⟨b, off, none⟩) l → l ≠ [] → l.length ≤ cap → l.length ≤ 50000000 → cap ≤ maxLen →
    Calls Tryd.prog 28 #[.slice (some ⟨b, off, none⟩) l.length cap] w fun e w' => e = .returned (.int .i64 ((fst l : Nat) : Int)) ∧ Below w.heap.size w w'

set_option maxHeartbeats 1000000 in
theorem rchars_some (H : FirstSays) (b off cap : Nat) (l : List UInt8) (w : World) (hr : Row w (some ⟨b, off, none⟩) l) (hle : l.length ≤ cap) (hl : l.length ≤ 50000000) (hcm : cap ≤ maxLen) :
    Calls Tryd.prog 20 #[.slice (some ⟨b, off, none⟩) l.length cap] w fun e w' => e = .returned (.int .i64 (chI l)) ∧ Below w.heap.size w w' := by
  have HH := hide H
  have HCM := hide hcm
  clear H hcm
  go_enter Tryd.func20, Tryd.ntmps20
  go_wp2
  go_loopw [3] (fun i wr => ∃ n : Nat, n ≤ l.length ∧ i = .int .i64 (n : Int) ∧ Hid (chr l = (chr (l.drop n)).map (· + n)) ∧ Below w.heap.size w wr) (fun i _ => l.length - (intOf i).toNat)
  case atStart => exact ⟨0, Nat.zero_le _, rfl, (by show _ = _; simp), Below.refl _ _⟩
  case round =>
    obtain ⟨n, hn, rfl, HC, hb⟩ := hrel
    by_cases hlt : n < l.length
    · have hsl := slice_from b off l.length cap n n wr rfl hn (by omega)
      have hne : l.drop n ≠ [] := by intro e; have := congrArg List.length e; simp at this; omega
      have hrow : Row w (some ⟨b, off + n, none⟩) (l.drop n) := hr.drop n
      have hdl : (l.drop n).length = l.length - n := by simp
      have HD := hide (unhide HH b (off + n) (cap - n) (l.drop n) wr (hrow.below hb (Nat.le_refl _)) hne (by omega) (by omega) (by have := unhide HCM; omega))
      have hsz := d4_size (l.drop n) hne
      rw [hdl] at hsz HD
      have Hgo := hide (chr_go (l.drop n) hne)
      have Hbad := hide (chr_bad (l.drop n) hne)
      clear hrow hr hdl hne
      obtain ⟨F, hF⟩ : ∃ F, fst (l.drop n) = F := ⟨_, rfl⟩
      rw [hF] at HD
      have HFs : Hid ((F = 0 ∧ d4 (l.drop n) = (65533, 1)) ∨ (F = (d4 (l.drop n)).2 ∧ d4 (l.drop n) ≠ (65533, 1))) := by
        show _ ∨ _
        rw [← hF]
        unfold fst
        by_cases h : d4 (l.drop n) = (65533, 1)
        · left; rw [if_pos h]; exact ⟨rfl, h⟩
        · right; rw [if_neg h]; exact ⟨rfl, h⟩
      clear hF
      go_wp2_with fail
      refine (unhide HD).mono ?_
      rintro e w2 ⟨rfl, hb2⟩
      have hW2 := hb.trans (hb2.mono hb.size)
      clear HD hb2 hb
      rcases unhide HFs with ⟨rfl, hbd⟩ | ⟨hF, hnb⟩
      · have HF : Hid (chI l = (n : Int)) := by
          show _ = _
          unfold chI
          rw [unhide HC, (unhide Hbad) hbd]
          simp
        clear HC Hbad Hgo HFs hbd hsz
        go_wp2
        go_ret
        exact ⟨ret_int (unhide HF).symm, hW2⟩
      · rw [← hF] at hsz
        have HF : Hid (chr l = (chr (l.drop (n + F))).map (· + (n + F))) := by
          show _ = _
          rw [unhide HC, (unhide Hgo) hnb, ← hF, List.drop_drop]
          cases chr (l.drop (n + F)) with
          | none => rfl
          | some y => simp; omega
        have hF0 : ((F : Int) == 0) = false := by simp; omega
        clear HC Hbad Hgo HFs hnb hF
        go_wp2
        go_roundw
        case rel => exact ⟨n + F, by omega, by go_num, HF, hW2⟩
        case measure => simp [intOf]; omega
    · have HF : Hid (chI l = -1) := by
        show _ = _
        unfold chI
        rw [unhide HC, List.drop_of_length_le (by omega), chr_nil]
        rfl
      clear HC
      go_wp2
      go_ret
      exact ⟨ret_int (unhide HF).symm, hb⟩

set_option maxHeartbeats 400000 in
theorem rchars_none (a : Option Addr) (cap : Nat) (w : World) :
    Calls Tryd.prog 20 #[.slice a 0 cap] w fun e w' => e = .returned (.int .i64 (-1)) ∧ w' = w := by
  go_enter Tryd.func20, Tryd.ntmps20
  go_wp2
  refine wp_loop_rounds 1 ?_
  rw [rounds_succ]
  go_wp2
  go_ret
  exact ⟨rfl, rfl⟩

theorem rchars_any (H : FirstSays) (a : Option Addr) (n cap : Nat) (l : List UInt8) (w : World) (hB : Bs w a cap l) (hn : n = l.length) (hl : l.length ≤ 50000000) :
    Calls Tryd.prog 20 #[.slice a n cap] w fun e w' => e = .returned (.int .i64 (chI l)) ∧ Below w.heap.size w w' := by
  subst hn
  by_cases h : l = []
  · subst h
    refine (rchars_none a cap w).mono ?_
    rintro e w' ⟨rfl, rfl⟩
    exact ⟨ret_int (by unfold chI; rw [chr_nil]), Below.refl _ _⟩
  · obtain ⟨b, off, rfl, _⟩ := hB.row h
    exact rchars_some H b off cap l w hB.row hB.le hl hB.most
#print axioms rchars_any
end Go.Proofs.YtpomejeopmfcmaaDoor
end
section
set_option linter.unusedVariables false
namespace Go.Proofs.YtpomejeopmfcmaaDoor
open Go.RowKit

theorem row_cs (w : World) (cs : List UInt8) (zs : List Value) (h : zs = cs.map fun c => Value.int .u8 (c.toNat : Int)) : Row (w.alloc (.cells zs.toArray 5)) (some ⟨w.heap.size, 0, none⟩) cs := by
  subst h
  intro _
  refine ⟨w.heap.size, 0, rfl, fun i hi => ?_⟩
  rw [cell_of_row _ w.heap.size (0 + i) _ _ _ (heap_alloc_new w _)]
  simp [hi]

theorem u8n {x : Nat} (h : x < 256) : ((UInt8.ofNat x).toNat : Int) = (x : Int) := by simp; omega
theorem u8c (x : Nat) (h : x < 256) : ∃ c : UInt8, UInt8.ofNat x = c ∧ (x : Int) % 256 = (c.toNat : Int) := ⟨_, rfl, by rw [u8n h]; omega⟩

set_option maxRecDepth 1000000 in
set_option maxHeartbeats 1000000 in
theorem char_any (V : Nat) (w : World) (hV : V ≤ 1114111) :
    Calls Tryd.prog 41 #[.int .i64 (V : Int)] w fun e w' => ∃ a', e = .returned (.slice a' (encL V).length (encL V).length) ∧ Row w' a' (encL V) ∧ Below w.heap.size w w' := by
  by_cases h1 : V < 128
  · have he : encL V = [UInt8.ofNat V] := by unfold encL; rw [if_pos h1]
    obtain ⟨c0, e0, w0⟩ := u8c V (by omega)
    rw [he, e0]
    have x0 : Hid ((V : Int) = (c0.toNat : Int)) := by show _ = _; have := w0; omega
    clear he e0 hV w0
    have hb := hide ((Below.refl w.heap.size w).alloc (Nat.le_refl _) (.cells #[.int .u8 (c0.toNat : Int)] 5))
    have hr := hide (row_cs w [c0] _ rfl)
    go_enter Tryd.func41, Tryd.ntmps41
    go_wp2
    go_ret
    exact ⟨_, rfl, by rw [unhide x0]; exact unhide hr, by rw [unhide x0]; exact unhide hb⟩
  · by_cases h2 : V < 2048
    · have he : encL V = [UInt8.ofNat (192 + V / 64), UInt8.ofNat (128 + V % 64)] := by unfold encL; rw [if_neg h1, if_pos h2]
      rw [he]
      obtain ⟨q, hq⟩ : ∃ x : Nat, x = V / 64 := ⟨_, rfl⟩
      obtain ⟨r, hr⟩ : ∃ x : Nat, x = V % 64 := ⟨_, rfl⟩
      have hq1 : (V : Int) / 64 = (q : Int) := by omega
      have hq2 : (V : Int).tdiv 64 = (q : Int) := by rw [hq]; rfl
      have hql : q < 32 := by omega
      have hr1 : (V : Int) % 64 = (r : Int) := by omega
      have hr2 : (V : Int).tmod 64 = (r : Int) := by rw [hr]; rfl
      have hrl : r < 64 := by omega
      rw [← hq, ← hr]
      obtain ⟨c0, e0, w0⟩ := u8c (192 + q) (by omega)
      obtain ⟨c1, e1, w1⟩ := u8c (128 + r) (by omega)
      rw [e0, e1]
      have x0 : Hid (192 + (q : Int) = (c0.toNat : Int)) := by show _ = _; have := w0; omega
      have x1 : Hid (128 + (r : Int) = (c1.toNat : Int)) := by show _ = _; have := w1; omega
      clear he hV e0 w0 e1 w1 hq hr
      have hb := hide ((Below.refl w.heap.size w).alloc (Nat.le_refl _) (.cells #[.int .u8 (c0.toNat : Int), .int .u8 (c1.toNat : Int)] 5))
      have hr := hide (row_cs w [c0, c1] _ rfl)
      go_enter Tryd.func41, Tryd.ntmps41
      go_wp2
      go_ret
      exact ⟨_, rfl, by rw [unhide x0, unhide x1]; exact unhide hr, by rw [unhide x0, unhide x1]; exact unhide hb⟩
    · by_cases h3 : V < 65536
      · have he : encL V = [UInt8.ofNat (224 + V / 4096), UInt8.ofNat (128 + V / 64 % 64), UInt8.ofNat (128 + V % 64)] := by unfold encL; rw [if_neg h1, if_neg h2, if_pos h3]
        rw [he]
        obtain ⟨p, hp⟩ : ∃ x : Nat, x = V / 4096 := ⟨_, rfl⟩
        obtain ⟨q, hq⟩ : ∃ x : Nat, x = V / 64 := ⟨_, rfl⟩
        obtain ⟨s, hs⟩ : ∃ x : Nat, x = q % 64 := ⟨_, rfl⟩
        obtain ⟨r, hr⟩ : ∃ x : Nat, x = V % 64 := ⟨_, rfl⟩
        have hp1 : (V : Int) / 4096 = (p : Int) := by omega
        have hp2 : (V : Int).tdiv 4096 = (p : Int) := by rw [hp]; rfl
        have hpl : p < 16 := by omega
        have hq1 : (V : Int) / 64 = (q : Int) := by omega
        have hq2 : (V : Int).tdiv 64 = (q : Int) := by rw [hq]; rfl
        have hql : q < 1024 := by omega
        have hs1 : (q : Int) % 64 = (s : Int) := by omega
        have hs2 : (q : Int).tmod 64 = (s : Int) := by rw [hs]; rfl
        have hsl : s < 64 := by omega
        have hr1 : (V : Int) % 64 = (r : Int) := by omega
        have hr2 : (V : Int).tmod 64 = (r : Int) := by rw [hr]; rfl
        have hrl : r < 64 := by omega
        rw [← hp, ← hq, ← hs, ← hr]
        obtain ⟨c0, e0, w0⟩ := u8c (224 + p) (by omega)
        obtain ⟨c1, e1, w1⟩ := u8c (128 + s) (by omega)
        obtain ⟨c2, e2, w2⟩ := u8c (128 + r) (by omega)
        rw [e0, e1, e2]
        have x0 : Hid (224 + (p : Int) = (c0.toNat : Int)) := by show _ = _; have := w0; omega
        have x1 : Hid (128 + (s : Int) = (c1.toNat : Int)) := by show _ = _; have := w1; omega
        have x2 : Hid (128 + (r : Int) = (c2.toNat : Int)) := by show _ = _; have := w2; omega
        clear he hV e0 w0 e1 w1 e2 w2 hp hq hs hr
        have hb := hide ((Below.refl w.heap.size w).alloc (Nat.le_refl _) (.cells #[.int .u8 (c0.toNat : Int), .int .u8 (c1.toNat : Int), .int .u8 (c2.toNat : Int)] 5))
        have hr := hide (row_cs w [c0, c1, c2] _ rfl)
        go_enter Tryd.func41, Tryd.ntmps41
        go_wp2
        go_ret
        exact ⟨_, rfl, by rw [unhide x0, unhide x1, unhide x2]; exact unhide hr, by rw [unhide x0, unhide x1, unhide x2]; exact unhide hb⟩
      · have he : encL V = [UInt8.ofNat (240 + V / 262144), UInt8.ofNat (128 + V / 4096 % 64), UInt8.ofNat (128 + V / 64 % 64), UInt8.ofNat (128 + V % 64)] := by unfold encL; rw [if_neg h1, if_neg h2, if_neg h3]
        rw [he]
        obtain ⟨o, ho⟩ : ∃ x : Nat, x = V / 262144 := ⟨_, rfl⟩
        obtain ⟨p, hp⟩ : ∃ x : Nat, x = V / 4096 := ⟨_, rfl⟩
        obtain ⟨t, ht⟩ : ∃ x : Nat, x = p % 64 := ⟨_, rfl⟩
        obtain ⟨q, hq⟩ : ∃ x : Nat, x = V / 64 := ⟨_, rfl⟩
        obtain ⟨s, hs⟩ : ∃ x : Nat, x = q % 64 := ⟨_, rfl⟩
        obtain ⟨r, hr⟩ : ∃ x : Nat, x = V % 64 := ⟨_, rfl⟩
        have ho1 : (V : Int) / 262144 = (o : Int) := by omega
        have ho2 : (V : Int).tdiv 262144 = (o : Int) := by rw [ho]; rfl
        have hol : o < 8 := by omega
        have hp1 : (V : Int) / 4096 = (p : Int) := by omega
        have hp2 : (V : Int).tdiv 4096 = (p : Int) := by rw [hp]; rfl
        have hpl : p < 512 := by omega
        have ht1 : (p : Int) % 64 = (t : Int) := by omega
        have ht2 : (p : Int).tmod 64 = (t : Int) := by rw [ht]; rfl
        have htl : t < 64 := by omega
        have hq1 : (V : Int) / 64 = (q : Int) := by omega
        have hq2 : (V : Int).tdiv 64 = (q : Int) := by rw [hq]; rfl
        have hql : q < 32768 := by omega
        have hs1 : (q : Int) % 64 = (s : Int) := by omega
        have hs2 : (q : Int).tmod 64 = (s : Int) := by rw [hs]; rfl
        have hsl : s < 64 := by omega
        have hr1 : (V : Int) % 64 = (r : Int) := by omega
        have hr2 : (V : Int).tmod 64 = (r : Int) := by rw [hr]; rfl
        have hrl : r < 64 := by omega
        rw [← ho, ← hp, ← ht, ← hq, ← hs, ← hr]
        obtain ⟨c0, e0, w0⟩ := u8c (240 + o) (by omega)
        obtain ⟨c1, e1, w1⟩ := u8c (128 + t) (by omega)
        obtain ⟨c2, e2, w2⟩ := u8c (128 + s) (by omega)
        obtain ⟨c3, e3, w3⟩ := u8c (128 + r) (by omega)
        rw [e0, e1, e2, e3]
        have x0 : Hid (240 + (o : Int) = (c0.toNat : Int)) := by show _ = _; have := w0; omega
        have x1 : Hid (128 + (t : Int) = (c1.toNat : Int)) := by show _ = _; have := w1; omega
        have x2 : Hid (128 + (s : Int) = (c2.toNat : Int)) := by show _ = _; have := w2; omega
        have x3 : Hid (128 + (r : Int) = (c3.toNat : Int)) := by show _ = _; have := w3; omega
        clear he hV e0 w0 e1 w1 e2 w2 e3 w3 ho hp ht hq hs hr
        have hb := hide ((Below.refl w.heap.size w).alloc (Nat.le_refl _) (.cells #[.int .u8 (c0.toNat : Int), .int .u8 (c1.toNat : Int), .int .u8 (c2.toNat : Int), .int .u8 (c3.toNat : Int)] 5))
        have hr := hide (row_cs w [c0, c1, c2, c3] _ rfl)
        go_enter Tryd.func41, Tryd.ntmps41
        go_wp2
        go_ret
        exact ⟨_, rfl, by rw [unhide x0, unhide x1, unhide x2, unhide x3]; exact unhide hr, by rw [unhide x0, unhide x1, unhide x2, unhide x3]; exact unhide hb⟩
#print axioms char_any
end Go.Proofs.YtpomejeopmfcmaaDoor
end
