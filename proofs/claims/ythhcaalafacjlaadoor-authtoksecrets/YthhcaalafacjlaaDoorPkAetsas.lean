/-
  authtok: THE PLAIN MODEL: names, secrets, claims, tokens.
-/
import Derived.Test.YthhcaalafacjlaaDoorPkAetsao
import Derived.Test.YthhcaalafacjlaaDoorPkAetsaq
import Derived.Test.YthhcaalafacjlaaDoorPkAetsar
section
set_option linter.unusedVariables false
namespace Go.Proofs.YthhcaalafacjlaaDoor
open Go.RowKit

/-- A secret: its ID, its bytes. -/
abbrev Sec := Int × List UInt8
structure Cl where
  c : List UInt8
  g : List UInt8
  u : Int
deriving DecidableEq
def Cl.zero : Cl := ⟨[], [], 0⟩
def Cl.val (x : Cl) : Value := .agg #[.string (str x.c), .string (str x.g), .int .i64 x.u]

def nmB (c : UInt8) : Bool := (97 ≤ c && c ≤ 122) || (65 ≤ c && c ≤ 90) || (48 ≤ c && c ≤ 57) || c == 46 || c == 45 || c == 95
def nmOk (s : List UInt8) : Bool := decide (s ≠ []) && decide (s.length ≤ 24) && s.all nmB
def ckFrom : Int → List Sec → Bool
  | _, [] => true
  | m, s :: r => decide (m ≤ s.1) && decide (s.1 ≤ 1099511627776) && decide (16 ≤ s.2.length) && decide (s.2.length ≤ 64) && ckFrom (s.1 + 1) r
def ckOk (L : List Sec) : Bool := decide (L ≠ []) && decide (L.length ≤ 8) && ckFrom 0 L
def clOk (x : Cl) : Int := if nmOk x.c && nmOk x.g then (if 0 ≤ x.u ∧ x.u ≤ 1099511627776 then 0 else 1) else 6
def pay (id : Int) (x : Cl) : List UInt8 := form id.toNat ++ (form x.c.length ++ x.c) ++ (form x.g.length ++ x.g) ++ form x.u.toNat
def tok (s : Sec) (x : Cl) : List UInt8 := spR (pay s.1 x) 0 0 ++ 46 :: spR (mac s.2 (pay s.1 x)) 0 0
def lastS (L : List Sec) : Sec := L.getLast?.getD (0, [])
/-- Make: the error and the token. -/
def mkT (L : List Sec) (x : Cl) : Int × List UInt8 :=
  if ckOk L = false then (102, []) else if clOk x ≠ 0 then (clOk x, []) else (0, tok (lastS L) x)
/-- A text up to its first point. -/
def cutP (s : List UInt8) : List UInt8 := s.takeWhile (· != 46)
def tx1 (p : List UInt8) : List UInt8 := (tx p 24).1
def tx2 (p : List UInt8) : List UInt8 := p.drop (tx p 24).2.2
/-- What a text says: the secret's ID and the claim. -/
def sayP (p : List UInt8) : Int × Cl :=
  (((rd p).1 : Int), ⟨tx1 (p.drop (rd p).2.1), tx1 (tx2 (p.drop (rd p).2.1)), ((rd (tx2 (tx2 (p.drop (rd p).2.1)))).1 : Int)⟩)
def say (s : List UInt8) : Int × Cl := sayP ((unR (cutP s) 0 0).getD [])
def sgn (L : List Sec) (id : Int) (x : Cl) (s : List UInt8) : Bool :=
  match L.findIdx? (fun k => k.1 == id) with
  | none => false
  | some i => decide ((mkT (L.take (i + 1)) x).1 = 0) && decide ((mkT (L.take (i + 1)) x).2 = s)
/-- Read: the error and the claim. -/
def rdT (L : List Sec) (now : Int) (s : List UInt8) : Int × Cl :=
  if ckOk L = false then (102, Cl.zero) else if sgn L (say s).1 (say s).2 s = false then (100, Cl.zero)
  else if (say s).2.u ≤ now then (101, Cl.zero) else (0, (say s).2)

theorem lt_point : ∀ n : Fin 64, (lt n.val != 46) = true := by decide +kernel
theorem drn_point (k : Nat → Nat → List UInt8) : ∀ (C V : Nat), V < 2 ^ C → (∀ h c, c < 6 → h < 2 ^ c → ∀ y ∈ k h c, (y != 46) = true) → ∀ y ∈ drn V C k, (y != 46) = true := by
  intro C
  induction C using Nat.strongRecOn with
  | _ C ih =>
    intro V hV hk y hy
    by_cases h6 : 6 ≤ C
    · rw [drn_go V C k h6] at hy
      rcases List.mem_cons.1 hy with rfl | hy
      · have : V / 2 ^ (C - 6) < 64 := by
          apply Nat.div_lt_of_lt_mul
          rw [show (64 : Nat) = 2 ^ 6 from rfl, ← Nat.pow_add, show C - 6 + 6 = C by omega]
          exact hV
        exact lt_point ⟨_, this⟩
      · exact ih (C - 6) (by omega) _ (Nat.mod_lt _ (Nat.two_pow_pos _)) hk y hy
    · rw [drn_end V C k (by omega)] at hy
      exact hk V C (by omega) hV y hy
theorem sp_point : ∀ (l : List UInt8) (h c : Nat), c < 6 → h < 2 ^ c → ∀ y ∈ spR l h c, (y != 46) = true
  | [], h, c, hc, hh, y, hy => by
    simp only [spR] at hy
    split at hy
    · rw [List.mem_singleton.1 hy]
      have : h * 2 ^ (6 - c) < 64 := by
        calc h * 2 ^ (6 - c) < 2 ^ c * 2 ^ (6 - c) := Nat.mul_lt_mul_of_pos_right hh (Nat.two_pow_pos _)
          _ = 64 := by rw [← Nat.pow_add, show c + (6 - c) = 6 by omega]
      exact lt_point ⟨_, this⟩
    · cases hy
  | x :: l, h, c, hc, hh, y, hy => by
    refine drn_point (spR l) (c + 8) _ ?_ (fun h c hc hh y hy => sp_point l h c hc hh y hy) y hy
    have := x.toNat_lt
    rw [Nat.pow_add]
    omega
theorem cutP_tok (s : Sec) (x : Cl) : cutP (tok s x) = spR (pay s.1 x) 0 0 := by
  unfold cutP tok
  rw [List.takeWhile_append_of_pos (fun y hy => sp_point _ 0 0 (by omega) (by simp) y hy)]
  simp
theorem nm_len {s : List UInt8} (h : nmOk s = true) : s.length ≤ 24 ∧ s ≠ [] := by
  simp only [nmOk, Bool.and_eq_true, decide_eq_true_eq] at h
  exact ⟨h.1.2, h.1.1⟩
theorem tx_name (t r : List UInt8) (h : t.length ≤ 24) : tx (form t.length ++ (t ++ r)) 24 = (t, 0, (form t.length).length + t.length) := by
  unfold tx
  rw [rd_form _ (by omega)]
  simp only [ne_eq, not_true_eq_false, if_false]
  rw [if_neg (by omega), if_neg (by simp)]
  simp
theorem say_pay (id : Int) (x : Cl) (h0 : 0 ≤ id) (h1 : id ≤ 1099511627776) (hx : clOk x = 0) : sayP (pay id x) = (id, x) := by
  unfold clOk at hx
  split at hx
  · rename_i hn
    split at hx
    · rename_i hu
      rw [Bool.and_eq_true] at hn
      have hc := (nm_len hn.1).1
      have hg := (nm_len hn.2).1
      have e0 : pay id x = form id.toNat ++ (form x.c.length ++ (x.c ++ (form x.g.length ++ (x.g ++ form x.u.toNat)))) := by simp [pay]
      have r1 : rd (pay id x) = (id.toNat, (form id.toNat).length, 0) := by rw [e0]; exact rd_form _ (by omega) _
      have d1 : (pay id x).drop (rd (pay id x)).2.1 = form x.c.length ++ (x.c ++ (form x.g.length ++ (x.g ++ form x.u.toNat))) := by rw [r1, e0]; simp
      have t1 := tx_name x.c (form x.g.length ++ (x.g ++ form x.u.toNat)) hc
      have t2 := tx_name x.g (form x.u.toNat) hg
      have d2 : tx2 (form x.c.length ++ (x.c ++ (form x.g.length ++ (x.g ++ form x.u.toNat)))) = form x.g.length ++ (x.g ++ form x.u.toNat) := by
        unfold tx2
        rw [t1, ← List.append_assoc, ← List.length_append, List.drop_left]
      have d3 : tx2 (form x.g.length ++ (x.g ++ form x.u.toNat)) = form x.u.toNat := by
        unfold tx2
        rw [t2, ← List.append_assoc, ← List.length_append, List.drop_left]
      have r4 : rd (form x.u.toNat) = (x.u.toNat, (form x.u.toNat).length, 0) := by
        have := rd_form x.u.toNat (by omega) []
        simpa using this
      unfold sayP
      rw [d1, d2, d3, r1, r4]
      unfold tx1
      rw [t1, t2]
      have e1 : ((id.toNat : Nat) : Int) = id := Int.toNat_of_nonneg h0
      have e2 : ((x.u.toNat : Nat) : Int) = x.u := Int.toNat_of_nonneg hu.1
      simp [e1, e2]
    · omega
  · omega
theorem say_tok (s : Sec) (x : Cl) (h0 : 0 ≤ s.1) (h1 : s.1 ≤ 1099511627776) (hx : clOk x = 0) : say (tok s x) = (s.1, x) := by
  unfold say
  rw [cutP_tok, un_sp]
  exact say_pay s.1 x h0 h1 hx
theorem ck_mem : ∀ (L : List Sec) (m : Int), ckFrom m L = true → ∀ s ∈ L, m ≤ s.1 ∧ s.1 ≤ 1099511627776 ∧ s.2.length ≤ 64
  | [], _, _, s, h => by cases h
  | t :: r, m, h, s, hs => by
    simp only [ckFrom, Bool.and_eq_true, decide_eq_true_eq] at h
    rcases List.mem_cons.1 hs with rfl | hs
    · exact ⟨h.1.1.1.1, h.1.1.1.2, h.1.2⟩
    · have := ck_mem r _ h.2 s hs
      exact ⟨by omega, this.2⟩
theorem ckOk_mem {L : List Sec} (h : ckOk L = true) : ∀ s ∈ L, 0 ≤ s.1 ∧ s.1 ≤ 1099511627776 ∧ s.2.length ≤ 64 := by
  simp only [ckOk, Bool.and_eq_true, decide_eq_true_eq] at h
  exact ck_mem L 0 h.2
theorem ck_take : ∀ (L : List Sec) (m : Int) (n : Nat), ckFrom m L = true → ckFrom m (L.take n) = true
  | [], _, n, _ => by simp [ckFrom]
  | t :: r, m, 0, _ => by simp [ckFrom]
  | t :: r, m, n + 1, h => by
    simp only [ckFrom, List.take_succ_cons, Bool.and_eq_true, decide_eq_true_eq] at h ⊢
    exact ⟨h.1, ck_take r _ n h.2⟩
theorem ckOk_take {L : List Sec} (h : ckOk L = true) (i : Nat) : ckOk (L.take (i + 1)) = true := by
  simp only [ckOk, Bool.and_eq_true, decide_eq_true_eq] at h ⊢
  refine ⟨⟨?_, ?_⟩, ck_take L 0 _ h.2⟩
  · cases L with
    | nil => exact absurd rfl h.1.1
    | cons _ _ => simp
  · rw [List.length_take]; omega
/-- The first secret with the ID of the one at i is that one. -/
theorem ck_find : ∀ (L : List Sec) (m : Int) (i : Nat) (s : Sec), ckFrom m L = true → L[i]? = some s → L.findIdx? (fun k => k.1 == s.1) = some i
  | [], _, i, s, _, h => by simp at h
  | t :: r, m, 0, s, hc, h => by
    simp at h
    subst h
    simp [List.findIdx?_cons]
  | t :: r, m, i + 1, s, hc, h => by
    simp only [ckFrom, Bool.and_eq_true, decide_eq_true_eq] at hc
    have h2 : r[i]? = some s := by simpa using h
    have hm := ck_mem r _ hc.2 s (List.mem_of_getElem? h2)
    have hne : (t.1 == s.1) = false := by simp; omega
    rw [List.findIdx?_cons, hne, ck_find r _ i s hc.2 h2]
    rfl
theorem last_take (L : List Sec) (i : Nat) (s : Sec) (h : L[i]? = some s) : lastS (L.take (i + 1)) = s := by
  unfold lastS
  rw [List.getLast?_take]
  simp [h]
/-- A token that the secret at i made says its claim, whoever reads it who has the secret. -/
theorem rd_mk (L : List Sec) (i : Nat) (s : Sec) (x : Cl) (now : Int) (hL : ckOk L = true) (hs : L[i]? = some s) (hx : clOk x = 0) : rdT L now (tok s x) = if x.u ≤ now then (101, Cl.zero) else (0, x) := by
  have hm := ckOk_mem hL s (List.mem_of_getElem? hs)
  have hc : ckFrom 0 L = true := by simp only [ckOk, Bool.and_eq_true] at hL; exact hL.2
  unfold rdT
  rw [say_tok s x hm.1 hm.2.1 hx]
  have hsg : sgn L s.1 x (tok s x) = true := by
    unfold sgn
    rw [ck_find L 0 i s hc hs]
    unfold mkT
    simp [ckOk_take hL i, hx, last_take L i s hs]
  simp [hL, hsg]
#print axioms rd_mk
end Go.Proofs.YthhcaalafacjlaaDoor
end
