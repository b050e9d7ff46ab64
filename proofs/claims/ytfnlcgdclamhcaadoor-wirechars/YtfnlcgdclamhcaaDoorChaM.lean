/-
  CHARACTERS: where the first byte stands with which none begins: the model, and two texts one behind the other.
-/
import Derived.Test.YtfnlcgdclamhcaaDoorByt
import Derived.Lib.DecodeN
set_option linter.unusedVariables false
namespace Go.Proofs.YtfnlcgdclamhcaaDoor

def d4 (l : List UInt8) : Nat × Nat := Lib.decodeN l.length (l.getD 0 0).toNat (l.getD 1 0).toNat (l.getD 2 0).toNat (l.getD 3 0).toNat

theorem d4_long (l r : List UInt8) (h : 4 ≤ l.length) : d4 (l ++ r) = d4 l := by
  match l, h with
  | a :: b :: c :: d :: t, _ =>
    have h1 : 1 < (a :: b :: c :: d :: t).length := by simp
    have h2 : 2 < (a :: b :: c :: d :: t).length := by simp
    have h3 : 3 < (a :: b :: c :: d :: t).length := by simp
    have k1 : 1 < ((a :: b :: c :: d :: t) ++ r).length := by simp
    have k2 : 2 < ((a :: b :: c :: d :: t) ++ r).length := by simp
    have k3 : 3 < ((a :: b :: c :: d :: t) ++ r).length := by simp
    unfold d4 Lib.decodeN
    simp only [h1, h2, h3, k1, k2, k3, true_and]
    rfl
theorem d4_size (l : List UInt8) (h : l ≠ []) : 1 ≤ (d4 l).2 ∧ (d4 l).2 ≤ l.length := by
  have hl : 1 ≤ l.length := List.length_pos_iff.2 h
  unfold d4 Lib.decodeN
  repeat' split
  all_goals (simp only; omega)
theorem d4_good (l r : List UInt8) (h : l ≠ []) (hg : d4 l ≠ (65533, 1)) : d4 (l ++ r) = d4 l := by
  by_cases h4 : 4 ≤ l.length
  · exact d4_long l r h4
  · match l, h, h4 with
    | [a], _, _ =>
      unfold d4 Lib.decodeN at hg ⊢
      simp at hg ⊢
      by_cases ha : a.toNat < 128
      · simp [ha]
      · simp [ha] at hg
    | [a, b], _, _ =>
      unfold d4 Lib.decodeN at hg ⊢
      simp at hg ⊢
      by_cases ha : a.toNat < 128
      · simp [ha]
      · by_cases hb : a.toNat / 32 = 6 ∧ b.toNat / 64 = 2
        · simp [ha, hb]
        · simp [ha, hb] at hg
    | [a, b, c], _, _ =>
      unfold d4 Lib.decodeN at hg ⊢
      simp at hg ⊢
      by_cases ha : a.toNat < 128
      · simp [ha]
      · by_cases hb : a.toNat / 32 = 6 ∧ b.toNat / 64 = 2
        · simp [ha, hb]
        · by_cases hc : a.toNat / 16 = 14 ∧ b.toNat / 64 = 2 ∧ c.toNat / 64 = 2
          · simp [ha, hc]
          · simp [ha, hb, hc] at hg
    | a :: b :: c :: d :: t, _, h4 => exact absurd (by simp) h4

def chr (l : List UInt8) : Option Nat :=
  if h : l = [] then none
  else if d4 l = (65533, 1) then some 0
  else (chr (l.drop (d4 l).2)).map (· + (d4 l).2)
termination_by l.length
decreasing_by
  have := d4_size l h
  simp
  omega
theorem chr_nil : chr [] = none := by rw [chr]; simp
theorem chr_bad (l : List UInt8) (h : l ≠ []) (hb : d4 l = (65533, 1)) : chr l = some 0 := by rw [chr, dif_neg h, if_pos hb]
theorem chr_go (l : List UInt8) (h : l ≠ []) (hb : d4 l ≠ (65533, 1)) : chr l = (chr (l.drop (d4 l).2)).map (· + (d4 l).2) := by rw [chr, dif_neg h, if_neg hb]

theorem chr_lt : ∀ (n : Nat) (l : List UInt8), l.length ≤ n → ∀ x, chr l = some x → x < l.length
  | 0, l, hn, x, hx => by
    have : l = [] := List.eq_nil_of_length_eq_zero (by omega)
    subst this
    rw [chr_nil] at hx; cases hx
  | n + 1, l, hn, x, hx => by
    by_cases h : l = []
    · subst h; rw [chr_nil] at hx; cases hx
    · have hs := d4_size l h
      by_cases hb : d4 l = (65533, 1)
      · rw [chr_bad l h hb] at hx
        have := Option.some.inj hx
        have := List.length_pos_iff.2 h
        omega
      · rw [chr_go l h hb] at hx
        cases hc : chr (l.drop (d4 l).2) with
        | none => rw [hc] at hx; cases hx
        | some y =>
          rw [hc] at hx
          have := chr_lt n (l.drop (d4 l).2) (by simp; omega) y hc
          have e := Option.some.inj hx
          simp only [List.length_drop] at this
          simp only at e
          omega
theorem chr_none_append : ∀ (n : Nat) (a b : List UInt8), a.length ≤ n → chr a = none → chr (a ++ b) = (chr b).map (· + a.length)
  | 0, a, b, hn, hx => by
    have : a = [] := List.eq_nil_of_length_eq_zero (by omega)
    subst this
    simp
  | n + 1, a, b, hn, hx => by
    by_cases h : a = []
    · subst h; simp
    · have hs := d4_size a h
      by_cases hb : d4 a = (65533, 1)
      · rw [chr_bad a h hb] at hx; cases hx
      · rw [chr_go a h hb] at hx
        have hx2 : chr (a.drop (d4 a).2) = none := by
          cases hc : chr (a.drop (d4 a).2) with
          | none => rfl
          | some y => rw [hc] at hx; cases hx
        have hg := d4_good a b h hb
        rw [chr_go (a ++ b) (by simp [h]) (by rw [hg]; exact hb), hg, List.drop_append_of_le_length hs.2, chr_none_append n (a.drop (d4 a).2) b (by simp; omega) hx2]
        cases chr b with
        | none => rfl
        | some y => simp; omega
theorem chr_some_append : ∀ (n : Nat) (a b : List UInt8), a.length ≤ n → ∀ x, chr a = some x → chr (a ++ b) = some x ∨ (a.length ≤ x + 3 ∧ (chr (a ++ b) = none ∨ ∃ y, chr (a ++ b) = some y ∧ x < y))
  | 0, a, b, hn, x, hx => by
    have : a = [] := List.eq_nil_of_length_eq_zero (by omega)
    subst this
    rw [chr_nil] at hx; cases hx
  | n + 1, a, b, hn, x, hx => by
    by_cases h : a = []
    · subst h; rw [chr_nil] at hx; cases hx
    · have hs := d4_size a h
      have hne : a ++ b ≠ [] := by simp [h]
      by_cases hb : d4 a = (65533, 1)
      · rw [chr_bad a h hb] at hx
        obtain rfl := Option.some.inj hx
        by_cases h4 : 4 ≤ a.length
        · left
          exact chr_bad _ hne (by rw [d4_long a b h4]; exact hb)
        · by_cases hb2 : d4 (a ++ b) = (65533, 1)
          · left; exact chr_bad _ hne hb2
          · right
            refine ⟨by omega, ?_⟩
            rw [chr_go _ hne hb2]
            have hs2 := d4_size _ hne
            cases chr ((a ++ b).drop (d4 (a ++ b)).2) with
            | none => left; rfl
            | some y => right; exact ⟨y + (d4 (a ++ b)).2, rfl, by omega⟩
      · rw [chr_go a h hb] at hx
        have hg := d4_good a b h hb
        have e : chr (a ++ b) = (chr (a.drop (d4 a).2 ++ b)).map (· + (d4 a).2) := by
          rw [chr_go (a ++ b) hne (by rw [hg]; exact hb), hg, List.drop_append_of_le_length hs.2]
        cases hc : chr (a.drop (d4 a).2) with
        | none => rw [hc] at hx; cases hx
        | some y =>
          rw [hc] at hx
          have ex := Option.some.inj hx
          simp only at ex
          rw [e]
          rcases chr_some_append n (a.drop (d4 a).2) b (by simp; omega) y hc with h1 | ⟨h1, h2 | ⟨z, h2, h3⟩⟩
          · left; rw [h1, ← ex]; rfl
          · right
            simp only [List.length_drop] at h1
            exact ⟨by omega, .inl (by rw [h2]; rfl)⟩
          · right
            simp only [List.length_drop] at h1
            exact ⟨by omega, .inr ⟨z + (d4 a).2, by rw [h2]; rfl, by omega⟩⟩

def chI (l : List UInt8) : Int := match chr l with
  | none => -1
  | some x => (x : Int)
end Go.Proofs.YtfnlcgdclamhcaaDoor
