/-
  THE REFERENCE's letters as a model: rows of bits, six a letter, eight a byte; it is the same as spR and unR.
-/
import Derived.Test.YthliodpihbbjfaaDoorSpl
set_option linter.unusedVariables false
namespace Go.Proofs.YthliodpihbbjfaaDoor

/-- The lowest n bits, the greatest first. -/
def bl (x : Nat) : Nat → List Nat
  | 0 => []
  | n + 1 => x / 2 ^ n % 2 :: bl x n
theorem bl_length (x : Nat) : ∀ n, (bl x n).length = n
  | 0 => rfl
  | n + 1 => by simp [bl, bl_length x n]
theorem bl_le (x : Nat) : ∀ n, ∀ y ∈ bl x n, y ≤ 1
  | 0 => by simp [bl]
  | n + 1 => by
    intro y hy
    simp only [bl, List.mem_cons] at hy
    rcases hy with rfl | hy
    · omega
    · exact bl_le x n y hy
def bits8 (l : List UInt8) : List Nat := l.flatMap fun x => bl x.toNat 8
theorem bits8_cons (x : UInt8) (l : List UInt8) : bits8 (x :: l) = bl x.toNat 8 ++ bits8 l := by simp [bits8]
theorem bits8_length : ∀ l : List UInt8, (bits8 l).length = 8 * l.length
  | [] => rfl
  | x :: l => by rw [bits8_cons, List.length_append, bits8_length l, bl_length]; simp; omega
theorem bits8_le (l : List UInt8) : ∀ y ∈ bits8 l, y ≤ 1 := by
  intro y hy
  simp only [bits8, List.mem_flatMap] at hy
  obtain ⟨x, _, h⟩ := hy
  exact bl_le _ _ y h
def nm (c : UInt8) : Nat := (numOf c).getD 0
def bits6 (l : List UInt8) : List Nat := l.flatMap fun x => bl (nm x) 6
theorem bits6_cons (x : UInt8) (l : List UInt8) : bits6 (x :: l) = bl (nm x) 6 ++ bits6 l := by simp [bits6]
theorem bits6_length : ∀ l : List UInt8, (bits6 l).length = 6 * l.length
  | [] => rfl
  | x :: l => by rw [bits6_cons, List.length_append, bits6_length l, bl_length]; simp; omega
theorem bits6_le (l : List UInt8) : ∀ y ∈ bits6 l, y ≤ 1 := by
  intro y hy
  simp only [bits6, List.mem_flatMap] at hy
  obtain ⟨x, _, h⟩ := hy
  exact bl_le _ _ y h

/-- The number that the first k bits say. -/
def vk (B : List Nat) : Nat → Nat
  | 0 => 0
  | k + 1 => 2 * vk B k + B.getD k 0
theorem vk_lt (B : List Nat) (h : ∀ y ∈ B, y ≤ 1) : ∀ k, vk B k < 2 ^ k
  | 0 => by simp [vk]
  | k + 1 => by
    have := vk_lt B h k
    have h2 : B.getD k 0 ≤ 1 := by
      by_cases hk : k < B.length
      · simp [hk]; exact h _ (List.getElem_mem _)
      · simp [List.getElem?_eq_none (Nat.not_lt.1 hk)]
    rw [vk, Nat.pow_succ]
    omega
theorem getD_snoc (B : List Nat) (k : Nat) : (B ++ [0]).getD k 0 = B.getD k 0 := by
  simp only [List.getD_eq_getElem?_getD]
  rcases Nat.lt_trichotomy k B.length with h | h | h
  · rw [List.getElem?_append_left h]
  · subst h; simp
  · rw [List.getElem?_eq_none (by simp; omega), List.getElem?_eq_none (by omega)]
theorem vk_snoc (B : List Nat) : ∀ k, vk (B ++ [0]) k = vk B k
  | 0 => rfl
  | k + 1 => by rw [vk, vk, vk_snoc B k, getD_snoc]

def gr (B : List Nat) : List UInt8 := if h : B = [] then [] else lt (vk B 6) :: gr (B.drop 6)
termination_by B.length
decreasing_by
  have : 0 < B.length := List.length_pos_iff.2 h
  simp; omega
theorem gr_nil : gr [] = [] := by rw [gr]; simp
theorem gr_cons (B : List Nat) (h : 0 < B.length) : gr B = lt (vk B 6) :: gr (B.drop 6) := by
  rw [gr, dif_neg (List.length_pos_iff.1 h)]
theorem gr_snoc : ∀ (n : Nat) (B : List Nat), B.length ≤ n → B.length % 6 ≠ 0 → gr (B ++ [0]) = gr B
  | 0, B, h0, h => by omega
  | n + 1, B, h0, h => by
    rw [gr_cons (B ++ [0]) (by simp), gr_cons B (by omega), vk_snoc]
    congr 1
    by_cases h6 : B.length < 6
    · rw [List.drop_eq_nil_of_le (by simp; omega), List.drop_eq_nil_of_le (by omega)]
    · rw [List.drop_append_of_le_length (by omega)]
      exact gr_snoc n _ (by simp; omega) (by simp; omega)

theorem v6 (a b c d e f : Nat) (r : List Nat) : vk (a :: b :: c :: d :: e :: f :: r) 6 = 32 * a + 16 * b + 8 * c + 4 * d + 2 * e + f := by
  simp [vk]; omega
theorem v62 (a b : Nat) : vk [a, b] 6 = 32 * a + 16 * b := by
  simp [vk]; omega
theorem v64 (a b c d : Nat) : vk [a, b, c, d] 6 = 32 * a + 16 * b + 8 * c + 4 * d := by
  simp [vk]; omega
theorem v8 (a b c d e f g h : Nat) (r : List Nat) : vk (a :: b :: c :: d :: e :: f :: g :: h :: r) 8 = 128 * a + 64 * b + 32 * c + 16 * d + 8 * e + 4 * f + 2 * g + h := by
  simp [vk]; omega
theorem bl8 (x : Nat) : bl x 8 = [x / 128 % 2, x / 64 % 2, x / 32 % 2, x / 16 % 2, x / 8 % 2, x / 4 % 2, x / 2 % 2, x % 2] := by
  simp [bl]
theorem bl6 (x : Nat) : bl x 6 = [x / 32 % 2, x / 16 % 2, x / 8 % 2, x / 4 % 2, x / 2 % 2, x % 2] := by
  simp [bl]

theorem gr_bits : ∀ l : List UInt8, gr (bits8 l) = spR l 0 0
  | [] => gr_nil
  | [a] => by
    have ha := a.toNat_lt
    rw [sp1, bits8_cons, bl8, show bits8 [] = [] from rfl]
    simp only [List.cons_append, List.nil_append]
    rw [gr_cons _ (by simp), v6]
    simp only [List.drop_succ_cons, List.drop_zero]
    rw [gr_cons _ (by simp), v62]
    simp only [List.drop_succ_cons, List.drop_nil]
    rw [gr_nil]
    congr 2
    · omega
    · congr 1; omega
  | [a, b] => by
    have ha := a.toNat_lt
    have hb := b.toNat_lt
    rw [sp2, bits8_cons, bits8_cons, bl8, bl8, show bits8 [] = [] from rfl]
    simp only [List.cons_append, List.nil_append]
    rw [gr_cons _ (by simp), v6]
    simp only [List.drop_succ_cons, List.drop_zero]
    rw [gr_cons _ (by simp), v6]
    simp only [List.drop_succ_cons, List.drop_zero]
    rw [gr_cons _ (by simp), v64]
    simp only [List.drop_succ_cons, List.drop_nil]
    rw [gr_nil]
    have e1 : 32 * (a.toNat / 128 % 2) + 16 * (a.toNat / 64 % 2) + 8 * (a.toNat / 32 % 2) + 4 * (a.toNat / 16 % 2) + 2 * (a.toNat / 8 % 2) + a.toNat / 4 % 2 = a.toNat / 4 := by omega
    have e2 : 32 * (a.toNat / 2 % 2) + 16 * (a.toNat % 2) + 8 * (b.toNat / 128 % 2) + 4 * (b.toNat / 64 % 2) + 2 * (b.toNat / 32 % 2) + b.toNat / 16 % 2 = a.toNat % 4 * 16 + b.toNat / 16 := by omega
    have e3 : 32 * (b.toNat / 8 % 2) + 16 * (b.toNat / 4 % 2) + 8 * (b.toNat / 2 % 2) + 4 * (b.toNat % 2) = b.toNat % 16 * 4 := by omega
    rw [e1, e2, e3]
  | a :: b :: c :: l => by
    have ha := a.toNat_lt
    have hb := b.toNat_lt
    have hc := c.toNat_lt
    rw [sp3, bits8_cons, bits8_cons, bits8_cons, bl8, bl8, bl8]
    simp only [List.cons_append, List.nil_append]
    rw [gr_cons _ (by simp), v6]
    simp only [List.drop_succ_cons, List.drop_zero]
    rw [gr_cons _ (by simp), v6]
    simp only [List.drop_succ_cons, List.drop_zero]
    rw [gr_cons _ (by simp), v6]
    simp only [List.drop_succ_cons, List.drop_zero]
    rw [gr_cons _ (by simp), v6]
    simp only [List.drop_succ_cons, List.drop_zero]
    rw [gr_bits l]
    have e1 : 32 * (a.toNat / 128 % 2) + 16 * (a.toNat / 64 % 2) + 8 * (a.toNat / 32 % 2) + 4 * (a.toNat / 16 % 2) + 2 * (a.toNat / 8 % 2) + a.toNat / 4 % 2 = a.toNat / 4 := by omega
    have e2 : 32 * (a.toNat / 2 % 2) + 16 * (a.toNat % 2) + 8 * (b.toNat / 128 % 2) + 4 * (b.toNat / 64 % 2) + 2 * (b.toNat / 32 % 2) + b.toNat / 16 % 2 = a.toNat % 4 * 16 + b.toNat / 16 := by omega
    have e3 : 32 * (b.toNat / 8 % 2) + 16 * (b.toNat / 4 % 2) + 8 * (b.toNat / 2 % 2) + 4 * (b.toNat % 2) + 2 * (c.toNat / 128 % 2) + c.toNat / 64 % 2 = b.toNat % 16 * 4 + c.toNat / 64 := by omega
    have e4 : 32 * (c.toNat / 32 % 2) + 16 * (c.toNat / 16 % 2) + 8 * (c.toNat / 8 % 2) + 4 * (c.toNat / 4 % 2) + 2 * (c.toNat / 2 % 2) + c.toNat % 2 = c.toNat % 64 := by omega
    rw [e1, e2, e3, e4]

def g8 (B : List Nat) : List UInt8 := if h : 8 ≤ B.length then UInt8.ofNat (vk B 8) :: g8 (B.drop 8) else []
termination_by B.length
decreasing_by simp; omega
theorem g8_end (B : List Nat) (h : B.length < 8) : g8 B = [] := by rw [g8, dif_neg (by omega)]
theorem g8_go (B : List Nat) (h : 8 ≤ B.length) : g8 B = UInt8.ofNat (vk B 8) :: g8 (B.drop 8) := by rw [g8, dif_pos h]
theorem nm_lt (n : Nat) (h : n < 64) : nm (lt n) = n := by rw [nm, num_let n h]; rfl

theorem g8_sp : ∀ r : List UInt8, g8 (bits6 (spR r 0 0)) = r
  | [] => g8_end _ (by decide)
  | [a] => by
    have ha := a.toNat_lt
    rw [sp1, bits6_cons, bits6_cons, nm_lt _ (by omega), nm_lt _ (by omega), bl6, bl6, show bits6 [] = [] from rfl]
    simp only [List.cons_append, List.nil_append]
    rw [g8_go _ (by simp), v8, g8_end _ (by simp)]
    congr 1
    exact u8_of _ _ (by omega)
  | [a, b] => by
    have ha := a.toNat_lt
    have hb := b.toNat_lt
    rw [sp2, bits6_cons, bits6_cons, bits6_cons, nm_lt _ (by omega), nm_lt _ (by omega), nm_lt _ (by omega), bl6, bl6, bl6, show bits6 [] = [] from rfl]
    simp only [List.cons_append, List.nil_append]
    rw [g8_go _ (by simp), v8]
    simp only [List.drop_succ_cons, List.drop_zero]
    rw [g8_go _ (by simp), v8, g8_end _ (by simp)]
    congr 1
    · exact u8_of _ _ (by omega)
    · congr 1
      exact u8_of _ _ (by omega)
  | a :: b :: c :: l => by
    have ha := a.toNat_lt
    have hb := b.toNat_lt
    have hc := c.toNat_lt
    rw [sp3, bits6_cons, bits6_cons, bits6_cons, bits6_cons, nm_lt _ (by omega), nm_lt _ (by omega), nm_lt _ (by omega), nm_lt _ (by omega), bl6, bl6, bl6, bl6]
    simp only [List.cons_append, List.nil_append]
    rw [g8_go _ (by simp), v8]
    simp only [List.drop_succ_cons, List.drop_zero]
    rw [g8_go _ (by simp), v8]
    simp only [List.drop_succ_cons, List.drop_zero]
    rw [g8_go _ (by simp), v8]
    simp only [List.drop_succ_cons, List.drop_zero]
    rw [g8_sp l]
    congr 1
    · exact u8_of _ _ (by omega)
    · congr 1
      · exact u8_of _ _ (by omega)
      · congr 1
        exact u8_of _ _ (by omega)

theorem un_ref_some (l : List UInt8) (h : spR (g8 (bits6 l)) 0 0 = l) : unR l 0 0 = some (g8 (bits6 l)) := by
  have := un_sp (g8 (bits6 l))
  rw [h] at this
  exact this
theorem un_ref_none (l : List UInt8) (h : spR (g8 (bits6 l)) 0 0 ≠ l) : unR l 0 0 = none := by
  cases e : unR l 0 0 with
  | none => rfl
  | some r =>
    have h2 := sp_un l r e
    exfalso
    apply h
    rw [← h2, g8_sp]
theorem un_ref_bad (l : List UInt8) (k : Nat) (hk : k < l.length) (h : numOf l[k] = none) : unR l 0 0 = none := by
  cases e : unR l 0 0 with
  | none => rfl
  | some r =>
    obtain ⟨n, hn⟩ := unR_all l 0 0 r e l[k] (List.getElem_mem _)
    rw [h] at hn
    cases hn
end Go.Proofs.YthliodpihbbjfaaDoor
