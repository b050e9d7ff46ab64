/-
  PLAIN MATHEMATICS, no program: a number's form, its bytes the highest first.; LETTERS: the model of wire.Spell and wire.Unspell, and that one undoes the other.
-/
import Derived.WalkKit
section
set_option linter.unusedVariables false
namespace Go.Proofs.YtpomejeopmfcmaaDoor

/-- The lowest k bytes of a number, the highest first. -/
def be : Nat → Nat → List UInt8
  | 0, _ => []
  | k + 1, n => be k (n / 256) ++ [UInt8.ofNat n]

/-- How many bytes a number above 0 has. -/
def nb (n : Nat) : Nat :=
  if n < 256 then 1 else if n < 65536 then 2 else if n < 16777216 then 3 else if n < 4294967296 then 4
  else if n < 1099511627776 then 5 else if n < 281474976710656 then 6 else if n < 72057594037927936 then 7 else 8

/-- A number's form. -/
def form (n : Nat) : List UInt8 := if n ≤ 247 then [UInt8.ofNat n] else UInt8.ofNat (247 + nb n) :: be (nb n) n

theorem be_length : ∀ k n, (be k n).length = k
  | 0, _ => rfl
  | k + 1, n => by simp [be, be_length k]

theorem be_step (k j n : Nat) (h1 : 1 ≤ j) (hk : j ≤ k) : be (k - (j - 1)) (n / 256 ^ (j - 1)) = be (k - j) (n / 256 ^ j) ++ [UInt8.ofNat (n / 256 ^ (j - 1))] := by
  obtain ⟨i, rfl⟩ : ∃ i, j = i + 1 := ⟨j - 1, by omega⟩
  have e : k - (i + 1 - 1) = (k - (i + 1)) + 1 := by omega
  rw [e, be]
  congr 2
  rw [Nat.add_sub_cancel, Nat.div_div_eq_div_mul, Nat.pow_succ]

theorem be_left : ∀ k n, be (k + 1) n = UInt8.ofNat (n / 256 ^ k) :: be k n
  | 0, n => by simp [be]
  | k + 1, n => by
    rw [be, be_left k (n / 256)]
    conv => rhs; rw [be]
    rw [Nat.div_div_eq_div_mul, ← Nat.pow_succ', List.cons_append]

theorem nb_pos (n : Nat) : 1 ≤ nb n ∧ nb n ≤ 8 := by
  unfold nb
  repeat' split
  all_goals omega

theorem form_length (n : Nat) : (form n).length = if n ≤ 247 then 1 else 1 + nb n := by
  unfold form
  split
  · rfl
  · simp [be_length]; omega
theorem form_le (n : Nat) : 1 ≤ (form n).length ∧ (form n).length ≤ 9 := by
  have := nb_pos n
  rw [form_length]
  split <;> omega

/-- A number lies between two powers. -/
theorem nb_lo (n : Nat) (h : 0 < n) : 256 ^ (nb n - 1) ≤ n := by
  unfold nb
  repeat' split
  all_goals (simp; omega)
theorem nb_hi (n : Nat) (h : n < 18446744073709551616) : n < 256 ^ nb n := by
  unfold nb
  repeat' split
  all_goals (simp; omega)
theorem nb_of (n j : Nat) (hj : j ≤ 7) (h1 : 256 ^ j ≤ n) (h2 : n < 256 ^ (j + 1)) : nb n = j + 1 := by
  have hc : j = 0 ∨ j = 1 ∨ j = 2 ∨ j = 3 ∨ j = 4 ∨ j = 5 ∨ j = 6 ∨ j = 7 := by omega
  unfold nb
  rcases hc with rfl | rfl | rfl | rfl | rfl | rfl | rfl | rfl
  all_goals
    simp at h1 h2
    repeat' split
  all_goals omega

#print axioms be_left
#print axioms nb_of
end Go.Proofs.YtpomejeopmfcmaaDoor
end
section
set_option linter.unusedVariables false
namespace Go.Proofs.YtpomejeopmfcmaaDoor

def lets : List UInt8 := [65, 66, 67, 68, 69, 70, 71, 72, 73, 74, 75, 76, 77, 78, 79, 80, 81, 82, 83, 84, 85, 86, 87, 88, 89, 90, 97, 98, 99, 100, 101, 102, 103, 104, 105, 106, 107, 108, 109, 110, 111, 112, 113, 114, 115, 116, 117, 118, 119, 120, 121, 122, 48, 49, 50, 51, 52, 53, 54, 55, 56, 57, 45, 95]
def lt (n : Nat) : UInt8 := lets.getD n 0
def numOf (c : UInt8) : Option Nat :=
  if 65 ≤ c.toNat ∧ c.toNat ≤ 90 then some (c.toNat - 65)
  else if 97 ≤ c.toNat ∧ c.toNat ≤ 122 then some (c.toNat - 97 + 26)
  else if 48 ≤ c.toNat ∧ c.toNat ≤ 57 then some (c.toNat - 48 + 52)
  else if c.toNat = 45 then some 62
  else if c.toNat = 95 then some 63
  else none

theorem num_lt : ∀ n : Fin 64, numOf (lt n.val) = some n.val := by decide +kernel
theorem num_let (n : Nat) (h : n < 64) : numOf (lt n) = some n := num_lt ⟨n, h⟩
theorem lt_num_all : ∀ c : Fin 256, ∀ n, numOf (UInt8.ofNat c.val) = some n → n < 64 ∧ lt n = UInt8.ofNat c.val := by
  have h : ∀ c : Fin 256, (match numOf (UInt8.ofNat c.val) with | none => true | some n => decide (n < 64) && (lt n == UInt8.ofNat c.val)) = true := by decide +kernel
  intro c n hn
  have := h c
  rw [hn] at this
  simpa using this
theorem let_num (c : UInt8) (n : Nat) (h : numOf c = some n) : n < 64 ∧ lt n = c := by
  have := lt_num_all ⟨c.toNat, c.toNat_lt⟩ n (by simpa using h)
  simpa using this

/-- What is left in the row of bits is spelt, letter by letter. -/
def drn (V C : Nat) (k : Nat → Nat → List UInt8) : List UInt8 := if h : 6 ≤ C then lt (V / 2 ^ (C - 6)) :: drn (V % 2 ^ (C - 6)) (C - 6) k else k V C
termination_by C

def spR : List UInt8 → Nat → Nat → List UInt8
  | [] => fun h c => if 0 < c then [lt (h * 2 ^ (6 - c))] else []
  | x :: l => fun h c => drn (h * 256 + x.toNat) (c + 8) (spR l)

theorem drn_go (V C : Nat) (k) (h : 6 ≤ C) : drn V C k = lt (V / 2 ^ (C - 6)) :: drn (V % 2 ^ (C - 6)) (C - 6) k := by rw [drn, dif_pos h]
theorem drn_end (V C : Nat) (k) (h : C < 6) : drn V C k = k V C := by rw [drn, dif_neg (by omega)]

def unR : List UInt8 → Nat → Nat → Option (List UInt8)
  | [] => fun h c => if 6 ≤ c ∨ h ≠ 0 then none else some []
  | x :: l => fun h c => match numOf x with
    | none => none
    | some n => if 8 ≤ c + 6 then (unR l ((h * 64 + n) % 2 ^ (c - 2)) (c - 2)).map (UInt8.ofNat ((h * 64 + n) / 2 ^ (c - 2)) :: ·) else unR l (h * 64 + n) (c + 6)

theorem unR_none {x : UInt8} {l : List UInt8} {h c : Nat} (hn : numOf x = none) : unR (x :: l) h c = none := by simp [unR, hn]
theorem unR_take {x : UInt8} {l : List UInt8} {h c n : Nat} (hn : numOf x = some n) (h8 : 8 ≤ c + 6) : unR (x :: l) h c = (unR l ((h * 64 + n) % 2 ^ (c - 2)) (c - 2)).map (UInt8.ofNat ((h * 64 + n) / 2 ^ (c - 2)) :: ·) := by simp [unR, hn, h8]
theorem unR_go {x : UInt8} {l : List UInt8} {h c n : Nat} (hn : numOf x = some n) (h8 : c + 6 < 8) : unR (x :: l) h c = unR l (h * 64 + n) (c + 6) := by
  simp [unR, hn]
  intro h
  omega

theorem sp0 : spR [] 0 0 = [] := rfl
theorem sp1 (a : UInt8) : spR [a] 0 0 = [lt (a.toNat / 4), lt (a.toNat % 4 * 16)] := by
  show drn _ _ _ = _
  rw [drn_go _ _ _ (by decide), drn_end _ _ _ (by decide)]
  simp [spR]
theorem sp2 (a b : UInt8) : spR [a, b] 0 0 = [lt (a.toNat / 4), lt (a.toNat % 4 * 16 + b.toNat / 16), lt (b.toNat % 16 * 4)] := by
  have hb := b.toNat_lt
  show drn _ _ _ = _
  rw [drn_go _ _ _ (by decide), drn_end _ _ _ (by decide)]
  show _ :: drn _ _ _ = _
  rw [drn_go _ _ _ (by decide), drn_end _ _ _ (by decide)]
  simp [spR]
  constructor
  · congr 1; omega
  · congr 1; omega
theorem sp3 (a b c : UInt8) (l : List UInt8) : spR (a :: b :: c :: l) 0 0 = lt (a.toNat / 4) :: lt (a.toNat % 4 * 16 + b.toNat / 16) :: lt (b.toNat % 16 * 4 + c.toNat / 64) :: lt (c.toNat % 64) :: spR l 0 0 := by
  have hb := b.toNat_lt
  have hc := c.toNat_lt
  show drn _ _ _ = _
  rw [drn_go _ _ _ (by decide), drn_end _ _ _ (by decide)]
  show _ :: drn _ _ _ = _
  rw [drn_go _ _ _ (by decide), drn_end _ _ _ (by decide)]
  show _ :: _ :: drn _ _ _ = _
  rw [drn_go _ _ _ (by decide), drn_go _ _ _ (by decide), drn_end _ _ _ (by decide)]
  simp
  refine ⟨?_, ?_, ?_, ?_⟩
  · congr 1; omega
  · congr 1; omega
  · congr 1; omega
  · congr 1; omega

theorem un2 (x y : UInt8) (m n : Nat) (hx : numOf x = some m) (hy : numOf y = some n) : unR [x, y] 0 0 = if n % 16 = 0 then some [UInt8.ofNat (m * 4 + n / 16)] else none := by
  have h1 := (let_num _ _ hx).1
  have h2 := (let_num _ _ hy).1
  rw [unR_go hx (by decide), unR_take hy (by decide)]
  simp [unR]
  by_cases h : n % 16 = 0
  · have e1 : (m * 64 + n) % 16 = 0 := by omega
    have e2 : (m * 64 + n) / 16 = m * 4 + n / 16 := by omega
    simp [h, e1, e2]
  · have e1 : ¬ (m * 64 + n) % 16 = 0 := by omega
    simp [h, e1]
theorem un3 (x y z : UInt8) (m n o : Nat) (hx : numOf x = some m) (hy : numOf y = some n) (hz : numOf z = some o) : unR [x, y, z] 0 0 = if o % 4 = 0 then some [UInt8.ofNat (m * 4 + n / 16), UInt8.ofNat (n % 16 * 16 + o / 4)] else none := by
  have h1 := (let_num _ _ hx).1
  have h2 := (let_num _ _ hy).1
  have h3 := (let_num _ _ hz).1
  rw [unR_go hx (by decide), unR_take hy (by decide), unR_take hz (by decide)]
  simp [unR]
  have e2 : (m * 64 + n) / 16 = m * 4 + n / 16 := by omega
  have e3 : ((m * 64 + n) % 16 * 64 + o) / 4 = n % 16 * 16 + o / 4 := by omega
  by_cases h : o % 4 = 0
  · have e1 : ((m * 64 + n) % 16 * 64 + o) % 4 = 0 := by omega
    simp [h, e1, e2, e3]
  · have e1 : ¬ ((m * 64 + n) % 16 * 64 + o) % 4 = 0 := by omega
    simp [h, e1]
theorem un4 (x y z t : UInt8) (l : List UInt8) (m n o p : Nat) (hx : numOf x = some m) (hy : numOf y = some n) (hz : numOf z = some o) (ht : numOf t = some p) :
    unR (x :: y :: z :: t :: l) 0 0 = (unR l 0 0).map (fun r => UInt8.ofNat (m * 4 + n / 16) :: UInt8.ofNat (n % 16 * 16 + o / 4) :: UInt8.ofNat (o % 4 * 64 + p) :: r) := by
  have h1 := (let_num _ _ hx).1
  have h2 := (let_num _ _ hy).1
  have h3 := (let_num _ _ hz).1
  have h4 := (let_num _ _ ht).1
  rw [unR_go hx (by decide), unR_take hy (by decide), unR_take hz (by decide), unR_take ht (by decide)]
  have e2 : (m * 64 + n) / 16 = m * 4 + n / 16 := by omega
  have e3 : ((m * 64 + n) % 16 * 64 + o) / 4 = n % 16 * 16 + o / 4 := by omega
  have e4 : ((m * 64 + n) % 16 * 64 + o) % 4 * 64 + p = o % 4 * 64 + p := by omega
  simp [e2, e3, e4, Nat.mod_one]
  cases unR l 0 0 <;> simp

theorem un1 (x : UInt8) : unR [x] 0 0 = none := by
  cases h : numOf x with
  | none => exact unR_none h
  | some n => rw [unR_go h (by decide)]; simp [unR]

/-- Where a letter is none, nothing is spelt. -/
theorem unR_all : ∀ (l : List UInt8) (h c : Nat) (r : List UInt8), unR l h c = some r → ∀ x ∈ l, ∃ n, numOf x = some n
  | [], _, _, _, _ => fun x hx => by simp at hx
  | y :: l, h, c, r, e => by
    cases hy : numOf y with
    | none => rw [unR_none hy] at e; cases e
    | some n =>
      intro x hx
      rcases List.mem_cons.1 hx with rfl | hx
      · exact ⟨n, hy⟩
      · by_cases h8 : 8 ≤ c + 6
        · rw [unR_take hy h8] at e
          cases hu : unR l ((h * 64 + n) % 2 ^ (c - 2)) (c - 2) with
          | none => rw [hu] at e; simp at e
          | some r' => exact unR_all l _ _ _ hu x hx
        · rw [unR_go hy (by omega)] at e
          exact unR_all l _ _ _ e x hx

theorem u8_of (n : Nat) (a : UInt8) (h : n = a.toNat) : UInt8.ofNat n = a := by subst h; simp

/-- What is spelt is read. -/
theorem un_sp : ∀ l : List UInt8, unR (spR l 0 0) 0 0 = some l
  | [] => rfl
  | [a] => by
    have ha := a.toNat_lt
    rw [sp1, un2 _ _ _ _ (num_let _ (by omega)) (num_let _ (by omega)), if_pos (by omega), u8_of _ a (by omega)]
  | [a, b] => by
    have ha := a.toNat_lt
    have hb := b.toNat_lt
    rw [sp2, un3 _ _ _ _ _ _ (num_let _ (by omega)) (num_let _ (by omega)) (num_let _ (by omega)), if_pos (by omega), u8_of _ a (by omega), u8_of _ b (by omega)]
  | a :: b :: c :: l => by
    have ha := a.toNat_lt
    have hb := b.toNat_lt
    have hc := c.toNat_lt
    rw [sp3, un4 _ _ _ _ _ _ _ _ _ (num_let _ (by omega)) (num_let _ (by omega)) (num_let _ (by omega)) (num_let _ (by omega)), un_sp l]
    rw [Option.map_some, u8_of _ a (by omega), u8_of _ b (by omega), u8_of _ c (by omega)]

theorem sp_length : ∀ l : List UInt8, (spR l 0 0).length = (4 * l.length + 2) / 3
  | [] => rfl
  | [a] => by rw [sp1]; simp
  | [a, b] => by rw [sp2]; simp
  | a :: b :: c :: l => by
    rw [sp3]
    have := sp_length l
    simp only [List.length_cons] at *
    omega

theorem toNat_of (n : Nat) (h : n < 256) : (UInt8.ofNat n).toNat = n := by
  have := byte_lt' n h
  exact this
where byte_lt' (n : Nat) (h : n < 256) : (UInt8.ofNat n).toNat = n := by simp; omega

/-- What is read is spelt the same. -/
theorem sp_un : ∀ (s r : List UInt8), unR s 0 0 = some r → spR r 0 0 = s
  | [], r, h => by
    simp [unR] at h
    subst h
    rfl
  | [x], r, h => by rw [un1] at h; cases h
  | [x, y], r, h => by
    obtain ⟨m, hm⟩ := unR_all _ _ _ _ h x (by simp)
    obtain ⟨n, hn⟩ := unR_all _ _ _ _ h y (by simp)
    rw [un2 _ _ _ _ hm hn] at h
    obtain ⟨m1, m2⟩ := let_num _ _ hm
    obtain ⟨n1, n2⟩ := let_num _ _ hn
    split at h
    · rename_i h16
      obtain rfl := Option.some.inj h
      rw [sp1, toNat_of _ (by omega), ← m2, ← n2, show (m * 4 + n / 16) / 4 = m by omega, show (m * 4 + n / 16) % 4 * 16 = n by omega]
    · cases h
  | [x, y, z], r, h => by
    obtain ⟨m, hm⟩ := unR_all _ _ _ _ h x (by simp)
    obtain ⟨n, hn⟩ := unR_all _ _ _ _ h y (by simp)
    obtain ⟨o, ho⟩ := unR_all _ _ _ _ h z (by simp)
    rw [un3 _ _ _ _ _ _ hm hn ho] at h
    obtain ⟨m1, m2⟩ := let_num _ _ hm
    obtain ⟨n1, n2⟩ := let_num _ _ hn
    obtain ⟨o1, o2⟩ := let_num _ _ ho
    split at h
    · rename_i h4
      obtain rfl := Option.some.inj h
      rw [sp2, toNat_of _ (by omega), toNat_of _ (by omega), ← m2, ← n2, ← o2, show (m * 4 + n / 16) / 4 = m by omega, show (m * 4 + n / 16) % 4 * 16 + (n % 16 * 16 + o / 4) / 16 = n by omega, show (n % 16 * 16 + o / 4) % 16 * 4 = o by omega]
    · cases h
  | x :: y :: z :: t :: l, r, h => by
    obtain ⟨m, hm⟩ := unR_all _ _ _ _ h x (by simp)
    obtain ⟨n, hn⟩ := unR_all _ _ _ _ h y (by simp)
    obtain ⟨o, ho⟩ := unR_all _ _ _ _ h z (by simp)
    obtain ⟨p, hp⟩ := unR_all _ _ _ _ h t (by simp)
    rw [un4 _ _ _ _ _ _ _ _ _ hm hn ho hp] at h
    obtain ⟨m1, m2⟩ := let_num _ _ hm
    obtain ⟨n1, n2⟩ := let_num _ _ hn
    obtain ⟨o1, o2⟩ := let_num _ _ ho
    obtain ⟨p1, p2⟩ := let_num _ _ hp
    cases hu : unR l 0 0 with
    | none => rw [hu] at h; cases h
    | some r' =>
      rw [hu] at h
      obtain rfl := Option.some.inj h
      rw [sp3, sp_un l r' hu, toNat_of _ (by omega), toNat_of _ (by omega), toNat_of _ (by omega), ← m2, ← n2, ← o2, ← p2, show (m * 4 + n / 16) / 4 = m by omega, show (m * 4 + n / 16) % 4 * 16 + (n % 16 * 16 + o / 4) / 16 = n by omega, show (n % 16 * 16 + o / 4) % 16 * 4 + (o % 4 * 64 + p) / 64 = o by omega, show (o % 4 * 64 + p) % 64 = p by omega]

/-- How many bytes are read. -/
theorem un_length : ∀ (s r : List UInt8), unR s 0 0 = some r → s.length = (4 * r.length + 2) / 3 := by
  intro s r h
  rw [← sp_un s r h, sp_length]

#print axioms sp_un
#print axioms un_sp
end Go.Proofs.YtpomejeopmfcmaaDoor
end
