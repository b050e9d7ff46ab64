/-
  PLAIN MATHEMATICS, no program: a number's form, its bytes the highest first.; LETTERS: the model of wire.Spell and wire.Unspell, and that one undoes the other.; THE REFERENCE's letters as a model: rows of bits, six a letter, eight a byte; it is the same as spR and unR.
-/
import Derived.WalkKit
section
set_option linter.unusedVariables false
namespace Go.Proofs.YtegbcjfceooflaaDoor

/-- The lowest k bytes of a number, the highest first. -/
def be : Nat → Nat → List UInt8
  | 0, _ => []
  | k + 1, n => be k (n / 256) ++ [UInt8.ofNat n]

/-- How many bytes a number above 0 has. -/
def nb (n : Nat) : Nat :=
  if n < 256 then 1 else if n < 65536 then 2 else if n < 16777216 then 3 else if n < 4294967296 then 4
  else if n < 1099511627776 then 5 else if n < 281474976710656 then 6 else if n < 72057594037927936 then 7 else 8

/-- A number's form. -/
def form (n : Nat) : List UInt8 := if n ≤ 247 then [UInt8.ofNat n] else UInt8.ofNat (247 + nb n) :: be (nb n) n

theorem be_length : ∀ k n, (be k n).length = k
  | 0, _ => rfl
  | k + 1, n => by simp [be, be_length k]

theorem be_step (k j n : Nat) (h1 : 1 ≤ j) (hk : j ≤ k) : be (k - (j - 1)) (n / 256 ^ (j - 1)) = be (k - j) (n / 256 ^ j) ++ [UInt8.ofNat (n / 256 ^ (j - 1))] := by
  obtain ⟨i, rfl⟩ : ∃ i, j = i + 1 := ⟨j - 1, by omega⟩
  have e : k - (i + 1 - 1) = (k - (i + 1)) + 1 := by omega
  rw [e, be]
  congr 2
  rw [Nat.add_sub_cancel, Nat.div_div_eq_div_mul, Nat.pow_succ]

theorem be_left : ∀ k n, be (k + 1) n = UInt8.ofNat (n / 256 ^ k) :: be k n
  | 0, n => by simp [be]
  | k + 1, n => by
    rw [be, be_left k (n / 256)]
    conv => rhs; rw [be]
    rw [Nat.div_div_eq_div_mul, ← Nat.pow_succ', List.cons_append]

theorem nb_pos (n : Nat) : 1 ≤ nb n ∧ nb n ≤ 8 := by
  unfold nb
  repeat' split
  all_goals omega

theorem form_length (n : Nat) : (form n).length = if n ≤ 247 then 1 else 1 + nb n := by
  unfold form
  split
  · rfl
  · simp [be_length]; omega
theorem form_le (n : Nat) : 1 ≤ (form n).length ∧ (form n).length ≤ 9 := by
  have := nb_pos n
  rw [form_length]
  split <;> omega

/-- A number lies between two powers. -/
theorem nb_lo (n : Nat) (h : 0 < n) : 256 ^ (nb n - 1) ≤ n := by
  unfold nb
  repeat' split
  all_goals (simp; omega)
theorem nb_hi (n : Nat) (h : n < 18446744073709551616) : n < 256 ^ nb n := by
  unfold nb
  repeat' split
  all_goals (simp; omega)
theorem nb_of (n j : Nat) (hj : j ≤ 7) (h1 : 256 ^ j ≤ n) (h2 : n < 256 ^ (j + 1)) : nb n = j + 1 := by
  have hc : j = 0 ∨ j = 1 ∨ j = 2 ∨ j = 3 ∨ j = 4 ∨ j = 5 ∨ j = 6 ∨ j = 7 := by omega
  unfold nb
  rcases hc with rfl | rfl | rfl | rfl | rfl | rfl | rfl | rfl
  all_goals
    simp at h1 h2
    repeat' split
  all_goals omega

#print axioms be_left
#print axioms nb_of
end Go.Proofs.YtegbcjfceooflaaDoor
end
section
set_option linter.unusedVariables false
namespace Go.Proofs.YtegbcjfceooflaaDoor

def lets : List UInt8 := [65, 66, 67, 68, 69, 70, 71, 72, 73, 74, 75, 76, 77, 78, 79, 80, 81, 82, 83, 84, 85, 86, 87, 88, 89, 90, 97, 98, 99, 100, 101, 102, 103, 104, 105, 106, 107, 108, 109, 110, 111, 112, 113, 114, 115, 116, 117, 118, 119, 120, 121, 122, 48, 49, 50, 51, 52, 53, 54, 55, 56, 57, 45, 95]
def lt (n : Nat) : UInt8 := lets.getD n 0
def numOf (c : UInt8) : Option Nat :=
  if 65 ≤ c.toNat ∧ c.toNat ≤ 90 then some (c.toNat - 65)
  else if 97 ≤ c.toNat ∧ c.toNat ≤ 122 then some (c.toNat - 97 + 26)
  else if 48 ≤ c.toNat ∧ c.toNat ≤ 57 then some (c.toNat - 48 + 52)
  else if c.toNat = 45 then some 62
  else if c.toNat = 95 then some 63
  else none

theorem num_lt : ∀ n : Fin 64, numOf (lt n.val) = some n.val := by decide +kernel
theorem num_let (n : Nat) (h : n < 64) : numOf (lt n) = some n := num_lt ⟨n, h⟩
theorem lt_num_all : ∀ c : Fin 256, ∀ n, numOf (UInt8.ofNat c.val) = some n → n < 64 ∧ lt n = UInt8.ofNat c.val := by
  have h : ∀ c : Fin 256, (match numOf (UInt8.ofNat c.val) with | none => true | some n => decide (n < 64) && (lt n == UInt8.ofNat c.val)) = true := by decide +kernel
  intro c n hn
  have := h c
  rw [hn] at this
  simpa using this
theorem let_num (c : UInt8) (n : Nat) (h : numOf c = some n) : n < 64 ∧ lt n = c := by
  have := lt_num_all ⟨c.toNat, c.toNat_lt⟩ n (by simpa using h)
  simpa using this

/-- What is left in the row of bits is spelt, letter by letter. -/
def drn (V C : Nat) (k : Nat → Nat → List UInt8) : List UInt8 := if h : 6 ≤ C then lt (V / 2 ^ (C - 6)) :: drn (V % 2 ^ (C - 6)) (C - 6) k else k V C
termination_by C

def spR : List UInt8 → Nat → Nat → List UInt8
  | [] => fun h c => if 0 < c then [lt (h * 2 ^ (6 - c))] else []
  | x :: l => fun h c => drn (h * 256 + x.toNat) (c + 8) (spR l)

theorem drn_go (V C : Nat) (k) (h : 6 ≤ C) : drn V C k = lt (V / 2 ^ (C - 6)) :: drn (V % 2 ^ (C - 6)) (C - 6) k := by rw [drn, dif_pos h]
theorem drn_end (V C : Nat) (k) (h : C < 6) : drn V C k = k V C := by rw [drn, dif_neg (by omega)]

def unR : List UInt8 → Nat → Nat → Option (List UInt8)
  | [] => fun h c => if 6 ≤ c ∨ h ≠ 0 then none else some []
  | x :: l => fun h c => match numOf x with
    | none => none
    | some n => if 8 ≤ c + 6 then (unR l ((h * 64 + n) % 2 ^ (c - 2)) (c - 2)).map (UInt8.ofNat ((h * 64 + n) / 2 ^ (c - 2)) :: ·) else unR l (h * 64 + n) (c + 6)

theorem unR_none {x : UInt8} {l : List UInt8} {h c : Nat} (hn : numOf x = none) : unR (x :: l) h c = none := by simp [unR, hn]
theorem unR_take {x : UInt8} {l : List UInt8} {h c n : Nat} (hn : numOf x = some n) (h8 : 8 ≤ c + 6) : unR (x :: l) h c = (unR l ((h * 64 + n) % 2 ^ (c - 2)) (c - 2)).map (UInt8.ofNat ((h * 64 + n) / 2 ^ (c - 2)) :: ·) := by simp [unR, hn, h8]
theorem unR_go {x : UInt8} {l : List UInt8} {h c n : Nat} (hn : numOf x = some n) (h8 : c + 6 < 8) : unR (x :: l) h c = unR l (h * 64 + n) (c + 6) := by
  simp [unR, hn]
  intro h
  omega

theorem sp0 : spR [] 0 0 = [] := rfl
theorem sp1 (a : UInt8) : spR [a] 0 0 = [lt (a.toNat / 4), lt (a.toNat % 4 * 16)] := by
  show drn _ _ _ = _
  rw [drn_go _ _ _ (by decide), drn_end _ _ _ (by decide)]
  simp [spR]
theorem sp2 (a b : UInt8) : spR [a, b] 0 0 = [lt (a.toNat / 4), lt (a.toNat % 4 * 16 + b.toNat / 16), lt (b.toNat % 16 * 4)] := by
  have hb := b.toNat_lt
  show drn _ _ _ = _
  rw [drn_go _ _ _ (by decide), drn_end _ _ _ (by decide)]
  show _ :: drn _ _ _ = _
  rw [drn_go _ _ _ (by decide), drn_end _ _ _ (by decide)]
  simp [spR]
  constructor
  · congr 1; omega
  · congr 1; omega
theorem sp3 (a b c : UInt8) (l : List UInt8) : spR (a :: b :: c :: l) 0 0 = lt (a.toNat / 4) :: lt (a.toNat % 4 * 16 + b.toNat / 16) :: lt (b.toNat % 16 * 4 + c.toNat / 64) :: lt (c.toNat % 64) :: spR l 0 0 := by
  have hb := b.toNat_lt
  have hc := c.toNat_lt
  show drn _ _ _ = _
  rw [drn_go _ _ _ (by decide), drn_end _ _ _ (by decide)]
  show _ :: drn _ _ _ = _
  rw [drn_go _ _ _ (by decide), drn_end _ _ _ (by decide)]
  show _ :: _ :: drn _ _ _ = _
  rw [drn_go _ _ _ (by decide), drn_go _ _ _ (by decide), drn_end _ _ _ (by decide)]
  simp
  refine ⟨?_, ?_, ?_, ?_⟩
  · congr 1; omega
  · congr 1; omega
  · congr 1; omega
  · congr 1; omega

theorem un2 (x y : UInt8) (m n : Nat) (hx : numOf x = some m) (hy : numOf y = some n) : unR [x, y] 0 0 = if n % 16 = 0 then some [UInt8.ofNat (m * 4 + n / 16)] else none := by
  have h1 := (let_num _ _ hx).1
  have h2 := (let_num _ _ hy).1
  rw [unR_go hx (by decide), unR_take hy (by decide)]
  simp [unR]
  by_cases h : n % 16 = 0
  · have e1 : (m * 64 + n) % 16 = 0 := by omega
    have e2 : (m * 64 + n) / 16 = m * 4 + n / 16 := by omega
    simp [h, e1, e2]
  · have e1 : ¬ (m * 64 + n) % 16 = 0 := by omega
    simp [h, e1]
theorem un3 (x y z : UInt8) (m n o : Nat) (hx : numOf x = some m) (hy : numOf y = some n) (hz : numOf z = some o) : unR [x, y, z] 0 0 = if o % 4 = 0 then some [UInt8.ofNat (m * 4 + n / 16), UInt8.ofNat (n % 16 * 16 + o / 4)] else none := by
  have h1 := (let_num _ _ hx).1
  have h2 := (let_num _ _ hy).1
  have h3 := (let_num _ _ hz).1
  rw [unR_go hx (by decide), unR_take hy (by decide), unR_take hz (by decide)]
  simp [unR]
  have e2 : (m * 64 + n) / 16 = m * 4 + n / 16 := by omega
  have e3 : ((m * 64 + n) % 16 * 64 + o) / 4 = n % 16 * 16 + o / 4 := by omega
  by_cases h : o % 4 = 0
  · have e1 : ((m * 64 + n) % 16 * 64 + o) % 4 = 0 := by omega
    simp [h, e1, e2, e3]
  · have e1 : ¬ ((m * 64 + n) % 16 * 64 + o) % 4 = 0 := by omega
    simp [h, e1]
theorem un4 (x y z t : UInt8) (l : List UInt8) (m n o p : Nat) (hx : numOf x = some m) (hy : numOf y = some n) (hz : numOf z = some o) (ht : numOf t = some p) :
    unR (x :: y :: z :: t :: l) 0 0 = (unR l 0 0).map (fun r => UInt8.ofNat (m * 4 + n / 16) :: UInt8.ofNat (n % 16 * 16 + o / 4) :: UInt8.ofNat (o % 4 * 64 + p) :: r) := by
  have h1 := (let_num _ _ hx).1
  have h2 := (let_num _ _ hy).1
  have h3 := (let_num _ _ hz).1
  have h4 := (let_num _ _ ht).1
  rw [unR_go hx (by decide), unR_take hy (by decide), unR_take hz (by decide), unR_take ht (by decide)]
  have e2 : (m * 64 + n) / 16 = m * 4 + n / 16 := by omega
  have e3 : ((m * 64 + n) % 16 * 64 + o) / 4 = n % 16 * 16 + o / 4 := by omega
  have e4 : ((m * 64 + n) % 16 * 64 + o) % 4 * 64 + p = o % 4 * 64 + p := by omega
  simp [e2, e3, e4, Nat.mod_one]
  cases unR l 0 0 <;> simp

theorem un1 (x : UInt8) : unR [x] 0 0 = none := by
  cases h : numOf x with
  | none => exact unR_none h
  | some n => rw [unR_go h (by decide)]; simp [unR]

/-- Where a letter is none, nothing is spelt. -/
theorem unR_all : ∀ (l : List UInt8) (h c : Nat) (r : List UInt8), unR l h c = some r → ∀ x ∈ l, ∃ n, numOf x = some n
  | [], _, _, _, _ => fun x hx => by simp at hx
  | y :: l, h, c, r, e => by
    cases hy : numOf y with
    | none => rw [unR_none hy] at e; cases e
    | some n =>
      intro x hx
      rcases List.mem_cons.1 hx with rfl | hx
      · exact ⟨n, hy⟩
      · by_cases h8 : 8 ≤ c + 6
        · rw [unR_take hy h8] at e
          cases hu : unR l ((h * 64 + n) % 2 ^ (c - 2)) (c - 2) with
          | none => rw [hu] at e; simp at e
          | some r' => exact unR_all l _ _ _ hu x hx
        · rw [unR_go hy (by omega)] at e
          exact unR_all l _ _ _ e x hx

theorem u8_of (n : Nat) (a : UInt8) (h : n = a.toNat) : UInt8.ofNat n = a := by subst h; simp

/-- What is spelt is read. -/
theorem un_sp : ∀ l : List UInt8, unR (spR l 0 0) 0 0 = some l
  | [] => rfl
  | [a] => by
    have ha := a.toNat_lt
    rw [sp1, un2 _ _ _ _ (num_let _ (by omega)) (num_let _ (by omega)), if_pos (by omega), u8_of _ a (by omega)]
  | [a, b] => by
    have ha := a.toNat_lt
    have hb := b.toNat_lt
    rw [sp2, un3 _ _ _ _ _ _ (num_let _ (by omega)) (num_let _ (by omega)) (num_let _ (by omega)), if_pos (by omega), u8_of _ a (by omega), u8_of _ b (by omega)]
  | a :: b :: c :: l => by
    have ha := a.toNat_lt
    have hb := b.toNat_lt
    have hc := c.toNat_lt
    rw [sp3, un4 _ _ _ _ _ _ _ _ _ (num_let _ (by omega)) (num_let _ (by omega)) (num_let _ (by omega)) (num_let _ (by omega)), un_sp l]
    rw [Option.map_some, u8_of _ a (by omega), u8_of _ b (by omega), u8_of _ c (by omega)]

theorem sp_length : ∀ l : List UInt8, (spR l 0 0).length = (4 * l.length + 2) / 3
  | [] => rfl
  | [a] => by rw [sp1]; simp
  | [a, b] => by rw [sp2]; simp
  | a :: b :: c :: l => by
    rw [sp3]
    have := sp_length l
    simp only [List.length_cons] at *
    omega

theorem toNat_of (n : Nat) (h : n < 256) : (UInt8.ofNat n).toNat = n := by
  have := byte_lt' n h
  exact this
where byte_lt' (n : Nat) (h : n < 256) : (UInt8.ofNat n).toNat = n := by simp; omega

/-- What is read is spelt the same. -/
theorem sp_un : ∀ (s r : List UInt8), unR s 0 0 = some r → spR r 0 0 = s
  | [], r, h => by
    simp [unR] at h
    subst h
    rfl
  | [x], r, h => by rw [un1] at h; cases h
  | [x, y], r, h => by
    obtain ⟨m, hm⟩ := unR_all _ _ _ _ h x (by simp)
    obtain ⟨n, hn⟩ := unR_all _ _ _ _ h y (by simp)
    rw [un2 _ _ _ _ hm hn] at h
    obtain ⟨m1, m2⟩ := let_num _ _ hm
    obtain ⟨n1, n2⟩ := let_num _ _ hn
    split at h
    · rename_i h16
      obtain rfl := Option.some.inj h
      rw [sp1, toNat_of _ (by omega), ← m2, ← n2, show (m * 4 + n / 16) / 4 = m by omega, show (m * 4 + n / 16) % 4 * 16 = n by omega]
    · cases h
  | [x, y, z], r, h => by
    obtain ⟨m, hm⟩ := unR_all _ _ _ _ h x (by simp)
    obtain ⟨n, hn⟩ := unR_all _ _ _ _ h y (by simp)
    obtain ⟨o, ho⟩ := unR_all _ _ _ _ h z (by simp)
    rw [un3 _ _ _ _ _ _ hm hn ho] at h
    obtain ⟨m1, m2⟩ := let_num _ _ hm
    obtain ⟨n1, n2⟩ := let_num _ _ hn
    obtain ⟨o1, o2⟩ := let_num _ _ ho
    split at h
    · rename_i h4
      obtain rfl := Option.some.inj h
      rw [sp2, toNat_of _ (by omega), toNat_of _ (by omega), ← m2, ← n2, ← o2, show (m * 4 + n / 16) / 4 = m by omega, show (m * 4 + n / 16) % 4 * 16 + (n % 16 * 16 + o / 4) / 16 = n by omega, show (n % 16 * 16 + o / 4) % 16 * 4 = o by omega]
    · cases h
  | x :: y :: z :: t :: l, r, h => by
    obtain ⟨m, hm⟩ := unR_all _ _ _ _ h x (by simp)
    obtain ⟨n, hn⟩ := unR_all _ _ _ _ h y (by simp)
    obtain ⟨o, ho⟩ := unR_all _ _ _ _ h z (by simp)
    obtain ⟨p, hp⟩ := unR_all _ _ _ _ h t (by simp)
    rw [un4 _ _ _ _ _ _ _ _ _ hm hn ho hp] at h
    obtain ⟨m1, m2⟩ := let_num _ _ hm
    obtain ⟨n1, n2⟩ := let_num _ _ hn
    obtain ⟨o1, o2⟩ := let_num _ _ ho
    obtain ⟨p1, p2⟩ := let_num _ _ hp
    cases hu : unR l 0 0 with
    | none => rw [hu] at h; cases h
    | some r' =>
      rw [hu] at h
      obtain rfl := Option.some.inj h
      rw [sp3, sp_un l r' hu, toNat_of _ (by omega), toNat_of _ (by omega), toNat_of _ (by omega), ← m2, ← n2, ← o2, ← p2, show (m * 4 + n / 16) / 4 = m by omega, show (m * 4 + n / 16) % 4 * 16 + (n % 16 * 16 + o / 4) / 16 = n by omega, show (n % 16 * 16 + o / 4) % 16 * 4 + (o % 4 * 64 + p) / 64 = o by omega, show (o % 4 * 64 + p) % 64 = p by omega]

/-- How many bytes are read. -/
theorem un_length : ∀ (s r : List UInt8), unR s 0 0 = some r → s.length = (4 * r.length + 2) / 3 := by
  intro s r h
  rw [← sp_un s r h, sp_length]

#print axioms sp_un
#print axioms un_sp
end Go.Proofs.YtegbcjfceooflaaDoor
end
section
set_option linter.unusedVariables false
namespace Go.Proofs.YtegbcjfceooflaaDoor

/-- The lowest n bits, the greatest first. -/
def bl (x : Nat) : Nat → List Nat
  | 0 => []
  | n + 1 => x / 2 ^ n % 2 :: bl x n
theorem bl_length (x : Nat) : ∀ n, (bl x n).length = n
  | 0 => rfl
  | n + 1 => by simp [bl, bl_length x n]
theorem bl_le (x : Nat) : ∀ n, ∀ y ∈ bl x n, y ≤ 1
  | 0 => by simp [bl]
  | n + 1 => by
    intro y hy
    simp only [bl, List.mem_cons] at hy
    rcases hy with rfl | hy
    · omega
    · exact bl_le x n y hy
def bits8 (l : List UInt8) : List Nat := l.flatMap fun x => bl x.toNat 8
theorem bits8_cons (x : UInt8) (l : List UInt8) : bits8 (x :: l) = bl x.toNat 8 ++ bits8 l := by simp [bits8]
theorem bits8_length : ∀ l : List UInt8, (bits8 l).length = 8 * l.length
  | [] => rfl
  | x :: l => by rw [bits8_cons, List.length_append, bits8_length l, bl_length]; simp; omega
theorem bits8_le (l : List UInt8) : ∀ y ∈ bits8 l, y ≤ 1 := by
  intro y hy
  simp only [bits8, List.mem_flatMap] at hy
  obtain ⟨x, _, h⟩ := hy
  exact bl_le _ _ y h
def nm (c : UInt8) : Nat := (numOf c).getD 0
def bits6 (l : List UInt8) : List Nat := l.flatMap fun x => bl (nm x) 6
theorem bits6_cons (x : UInt8) (l : List UInt8) : bits6 (x :: l) = bl (nm x) 6 ++ bits6 l := by simp [bits6]
theorem bits6_length : ∀ l : List UInt8, (bits6 l).length = 6 * l.length
  | [] => rfl
  | x :: l => by rw [bits6_cons, List.length_append, bits6_length l, bl_length]; simp; omega
theorem bits6_le (l : List UInt8) : ∀ y ∈ bits6 l, y ≤ 1 := by
  intro y hy
  simp only [bits6, List.mem_flatMap] at hy
  obtain ⟨x, _, h⟩ := hy
  exact bl_le _ _ y h

/-- The number that the first k bits say. -/
def vk (B : List Nat) : Nat → Nat
  | 0 => 0
  | k + 1 => 2 * vk B k + B.getD k 0
theorem vk_lt (B : List Nat) (h : ∀ y ∈ B, y ≤ 1) : ∀ k, vk B k < 2 ^ k
  | 0 => by simp [vk]
  | k + 1 => by
    have := vk_lt B h k
    have h2 : B.getD k 0 ≤ 1 := by
      by_cases hk : k < B.length
      · simp [hk]; exact h _ (List.getElem_mem _)
      · simp [List.getElem?_eq_none (Nat.not_lt.1 hk)]
    rw [vk, Nat.pow_succ]
    omega
theorem getD_snoc (B : List Nat) (k : Nat) : (B ++ [0]).getD k 0 = B.getD k 0 := by
  simp only [List.getD_eq_getElem?_getD]
  rcases Nat.lt_trichotomy k B.length with h | h | h
  · rw [List.getElem?_append_left h]
  · subst h; simp
  · rw [List.getElem?_eq_none (by simp; omega), List.getElem?_eq_none (by omega)]
theorem vk_snoc (B : List Nat) : ∀ k, vk (B ++ [0]) k = vk B k
  | 0 => rfl
  | k + 1 => by rw [vk, vk, vk_snoc B k, getD_snoc]

def gr (B : List Nat) : List UInt8 := if h : B = [] then [] else lt (vk B 6) :: gr (B.drop 6)
termination_by B.length
decreasing_by
  have : 0 < B.length := List.length_pos_iff.2 h
  simp; omega
theorem gr_nil : gr [] = [] := by rw [gr]; simp
theorem gr_cons (B : List Nat) (h : 0 < B.length) : gr B = lt (vk B 6) :: gr (B.drop 6) := by
  rw [gr, dif_neg (List.length_pos_iff.1 h)]
theorem gr_snoc : ∀ (n : Nat) (B : List Nat), B.length ≤ n → B.length % 6 ≠ 0 → gr (B ++ [0]) = gr B
  | 0, B, h0, h => by omega
  | n + 1, B, h0, h => by
    rw [gr_cons (B ++ [0]) (by simp), gr_cons B (by omega), vk_snoc]
    congr 1
    by_cases h6 : B.length < 6
    · rw [List.drop_eq_nil_of_le (by simp; omega), List.drop_eq_nil_of_le (by omega)]
    · rw [List.drop_append_of_le_length (by omega)]
      exact gr_snoc n _ (by simp; omega) (by simp; omega)

theorem v6 (a b c d e f : Nat) (r : List Nat) : vk (a :: b :: c :: d :: e :: f :: r) 6 = 32 * a + 16 * b + 8 * c + 4 * d + 2 * e + f := by
  simp [vk]; omega
theorem v62 (a b : Nat) : vk [a, b] 6 = 32 * a + 16 * b := by
  simp [vk]; omega
theorem v64 (a b c d : Nat) : vk [a, b, c, d] 6 = 32 * a + 16 * b + 8 * c + 4 * d := by
  simp [vk]; omega
theorem v8 (a b c d e f g h : Nat) (r : List Nat) : vk (a :: b :: c :: d :: e :: f :: g :: h :: r) 8 = 128 * a + 64 * b + 32 * c + 16 * d + 8 * e + 4 * f + 2 * g + h := by
  simp [vk]; omega
theorem bl8 (x : Nat) : bl x 8 = [x / 128 % 2, x / 64 % 2, x / 32 % 2, x / 16 % 2, x / 8 % 2, x / 4 % 2, x / 2 % 2, x % 2] := by
  simp [bl]
theorem bl6 (x : Nat) : bl x 6 = [x / 32 % 2, x / 16 % 2, x / 8 % 2, x / 4 % 2, x / 2 % 2, x % 2] := by
  simp [bl]

theorem gr_bits : ∀ l : List UInt8, gr (bits8 l) = spR l 0 0
  | [] => gr_nil
  | [a] => by
    have ha := a.toNat_lt
    rw [sp1, bits8_cons, bl8, show bits8 [] = [] from rfl]
    simp only [List.cons_append, List.nil_append]
    rw [gr_cons _ (by simp), v6]
    simp only [List.drop_succ_cons, List.drop_zero]
    rw [gr_cons _ (by simp), v62]
    simp only [List.drop_succ_cons, List.drop_nil]
    rw [gr_nil]
    congr 2
    · omega
    · congr 1; omega
  | [a, b] => by
    have ha := a.toNat_lt
    have hb := b.toNat_lt
    rw [sp2, bits8_cons, bits8_cons, bl8, bl8, show bits8 [] = [] from rfl]
    simp only [List.cons_append, List.nil_append]
    rw [gr_cons _ (by simp), v6]
    simp only [List.drop_succ_cons, List.drop_zero]
    rw [gr_cons _ (by simp), v6]
    simp only [List.drop_succ_cons, List.drop_zero]
    rw [gr_cons _ (by simp), v64]
    simp only [List.drop_succ_cons, List.drop_nil]
    rw [gr_nil]
    have e1 : 32 * (a.toNat / 128 % 2) + 16 * (a.toNat / 64 % 2) + 8 * (a.toNat / 32 % 2) + 4 * (a.toNat / 16 % 2) + 2 * (a.toNat / 8 % 2) + a.toNat / 4 % 2 = a.toNat / 4 := by omega
    have e2 : 32 * (a.toNat / 2 % 2) + 16 * (a.toNat % 2) + 8 * (b.toNat / 128 % 2) + 4 * (b.toNat / 64 % 2) + 2 * (b.toNat / 32 % 2) + b.toNat / 16 % 2 = a.toNat % 4 * 16 + b.toNat / 16 := by omega
    have e3 : 32 * (b.toNat / 8 % 2) + 16 * (b.toNat / 4 % 2) + 8 * (b.toNat / 2 % 2) + 4 * (b.toNat % 2) = b.toNat % 16 * 4 := by omega
    rw [e1, e2, e3]
  | a :: b :: c :: l => by
    have ha := a.toNat_lt
    have hb := b.toNat_lt
    have hc := c.toNat_lt
    rw [sp3, bits8_cons, bits8_cons, bits8_cons, bl8, bl8, bl8]
    simp only [List.cons_append, List.nil_append]
    rw [gr_cons _ (by simp), v6]
    simp only [List.drop_succ_cons, List.drop_zero]
    rw [gr_cons _ (by simp), v6]
    simp only [List.drop_succ_cons, List.drop_zero]
    rw [gr_cons _ (by simp), v6]
    simp only [List.drop_succ_cons, List.drop_zero]
    rw [gr_cons _ (by simp), v6]
    simp only [List.drop_succ_cons, List.drop_zero]
    rw [gr_bits l]
    have e1 : 32 * (a.toNat / 128 % 2) + 16 * (a.toNat / 64 % 2) + 8 * (a.toNat / 32 % 2) + 4 * (a.toNat / 16 % 2) + 2 * (a.toNat / 8 % 2) + a.toNat / 4 % 2 = a.toNat / 4 := by omega
    have e2 : 32 * (a.toNat / 2 % 2) + 16 * (a.toNat % 2) + 8 * (b.toNat / 128 % 2) + 4 * (b.toNat / 64 % 2) + 2 * (b.toNat / 32 % 2) + b.toNat / 16 % 2 = a.toNat % 4 * 16 + b.toNat / 16 := by omega
    have e3 : 32 * (b.toNat / 8 % 2) + 16 * (b.toNat / 4 % 2) + 8 * (b.toNat / 2 % 2) + 4 * (b.toNat % 2) + 2 * (c.toNat / 128 % 2) + c.toNat / 64 % 2 = b.toNat % 16 * 4 + c.toNat / 64 := by omega
    have e4 : 32 * (c.toNat / 32 % 2) + 16 * (c.toNat / 16 % 2) + 8 * (c.toNat / 8 % 2) + 4 * (c.toNat / 4 % 2) + 2 * (c.toNat / 2 % 2) + c.toNat % 2 = c.toNat % 64 := by omega
    rw [e1, e2, e3, e4]

def g8 (B : List Nat) : List UInt8 := if h : 8 ≤ B.length then UInt8.ofNat (vk B 8) :: g8 (B.drop 8) else []
termination_by B.length
decreasing_by simp; omega
theorem g8_end (B : List Nat) (h : B.length < 8) : g8 B = [] := by rw [g8, dif_neg (by omega)]
theorem g8_go (B : List Nat) (h : 8 ≤ B.length) : g8 B = UInt8.ofNat (vk B 8) :: g8 (B.drop 8) := by rw [g8, dif_pos h]
theorem nm_lt (n : Nat) (h : n < 64) : nm (lt n) = n := by rw [nm, num_let n h]; rfl

theorem g8_sp : ∀ r : List UInt8, g8 (bits6 (spR r 0 0)) = r
  | [] => g8_end _ (by decide)
  | [a] => by
    have ha := a.toNat_lt
    rw [sp1, bits6_cons, bits6_cons, nm_lt _ (by omega), nm_lt _ (by omega), bl6, bl6, show bits6 [] = [] from rfl]
    simp only [List.cons_append, List.nil_append]
    rw [g8_go _ (by simp), v8, g8_end _ (by simp)]
    congr 1
    exact u8_of _ _ (by omega)
  | [a, b] => by
    have ha := a.toNat_lt
    have hb := b.toNat_lt
    rw [sp2, bits6_cons, bits6_cons, bits6_cons, nm_lt _ (by omega), nm_lt _ (by omega), nm_lt _ (by omega), bl6, bl6, bl6, show bits6 [] = [] from rfl]
    simp only [List.cons_append, List.nil_append]
    rw [g8_go _ (by simp), v8]
    simp only [List.drop_succ_cons, List.drop_zero]
    rw [g8_go _ (by simp), v8, g8_end _ (by simp)]
    congr 1
    · exact u8_of _ _ (by omega)
    · congr 1
      exact u8_of _ _ (by omega)
  | a :: b :: c :: l => by
    have ha := a.toNat_lt
    have hb := b.toNat_lt
    have hc := c.toNat_lt
    rw [sp3, bits6_cons, bits6_cons, bits6_cons, bits6_cons, nm_lt _ (by omega), nm_lt _ (by omega), nm_lt _ (by omega), nm_lt _ (by omega), bl6, bl6, bl6, bl6]
    simp only [List.cons_append, List.nil_append]
    rw [g8_go _ (by simp), v8]
    simp only [List.drop_succ_cons, List.drop_zero]
    rw [g8_go _ (by simp), v8]
    simp only [List.drop_succ_cons, List.drop_zero]
    rw [g8_go _ (by simp), v8]
    simp only [List.drop_succ_cons, List.drop_zero]
    rw [g8_sp l]
    congr 1
    · exact u8_of _ _ (by omega)
    · congr 1
      · exact u8_of _ _ (by omega)
      · congr 1
        exact u8_of _ _ (by omega)

theorem un_ref_some (l : List UInt8) (h : spR (g8 (bits6 l)) 0 0 = l) : unR l 0 0 = some (g8 (bits6 l)) := by
  have := un_sp (g8 (bits6 l))
  rw [h] at this
  exact this
theorem un_ref_none (l : List UInt8) (h : spR (g8 (bits6 l)) 0 0 ≠ l) : unR l 0 0 = none := by
  cases e : unR l 0 0 with
  | none => rfl
  | some r =>
    have h2 := sp_un l r e
    exfalso
    apply h
    rw [← h2, g8_sp]
theorem un_ref_bad (l : List UInt8) (k : Nat) (hk : k < l.length) (h : numOf l[k] = none) : unR l 0 0 = none := by
  cases e : unR l 0 0 with
  | none => rfl
  | some r =>
    obtain ⟨n, hn⟩ := unR_all l 0 0 r e l[k] (List.getElem_mem _)
    rw [h] at hn
    cases hn
end Go.Proofs.YtegbcjfceooflaaDoor
end
