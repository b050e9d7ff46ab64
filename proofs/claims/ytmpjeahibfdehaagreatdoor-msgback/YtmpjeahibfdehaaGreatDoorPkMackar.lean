/-
  jsonx's parser as mathematics: what is left is an end of the text; a text with blanks behind it.; jsonx's parser as mathematics: values with blanks behind them; what a text with blanks around it tells.; jsonx: small things about rows of our own and values in memory.
-/
import Derived.Test.YtmpjeahibfdehaaGreatDoorPkMackaq
section
set_option linter.unusedVariables false
namespace Go.Proofs.YtmpjeahibfdehaaGreatDoor
open Go.RowKit

/-- What is left of a text, and of the same with b behind it. -/
def Tl (b l l' : List UInt8) : Prop := (l ≠ [] ∧ l' = l ++ b) ∨ (l = [] ∧ l' <:+ b)
def Bk (b : List UInt8) : Prop := ∀ c ∈ b, blB4 c = true
/-- What comes of both. -/
inductive Ou {α : Type} (b l : List UInt8) : Rs α → Rs α → Prop
 | ok (v : α) (r r' : List UInt8) : Tl b r r' → r <:+ l → Ou b l (.ok v r) (.ok v r')
 | no (r r' : List UInt8) (y : Nat) : Tl b r r' → r <:+ l → y ≠ 0 → Ou b l (.no r y) (.no r' y)
theorem Tl.self (b l : List UInt8) : Tl b l (l ++ b) := by
 cases l with
 | nil => exact .inr ⟨rfl, List.suffix_refl _⟩
 | cons c l => exact .inl ⟨List.cons_ne_nil _ _, rfl⟩
theorem Tl.nn (b : List UInt8) : Tl b [] [] := .inr ⟨rfl, List.nil_suffix⟩
theorem Tl.cases {b l l' : List UInt8} (hb : Bk b) (h : Tl b l l') : (∃ c t, l = c :: t ∧ l' = c :: (t ++ b)) ∨ (l = [] ∧ l' = []) ∨ (∃ c r, l = [] ∧ l' = c :: r ∧ blB4 c = true ∧ Tl b [] (c :: r) ∧ Tl b [] r) := by
 rcases h with ⟨h1, h2⟩ | ⟨h1, h2⟩
 ·cases l with
  | nil => exact absurd rfl h1
  | cons c t => exact .inl ⟨c, t, rfl, h2⟩
 ·subst h1
  cases l' with
  | nil => exact .inr (.inl ⟨rfl, rfl⟩)
  | cons c r =>
   refine .inr (.inr ⟨c, r, rfl, rfl, hb c (h2.subset List.mem_cons_self), .inr ⟨rfl, h2⟩, .inr ⟨rfl, (List.suffix_cons c r).trans h2⟩⟩)
theorem Tl.bk {b l' : List UInt8} (hb : Bk b) (h : Tl b [] l') : Bk l' := by
 rcases h with ⟨h1, h2⟩ | ⟨_, h2⟩
 ·exact absurd rfl h1
 ·exact fun c hc => hb c (h2.subset hc)
theorem Ou.mono {α : Type} {b l m : List UInt8} {x x' : Rs α} (h : Ou b l x x') (s : l <:+ m) : Ou b m x x' := by
 cases h with
 | ok v r r' h1 h2 => exact .ok v r r' h1 (h2.trans s)
 | no r r' y h1 h2 h3 => exact .no r r' y h1 (h2.trans s) h3
def Qb {α : Type} (f : List UInt8 → Rs α) : Prop := ∀ b l l', Bk b → Tl b l l' → Ou b l (f l) (f l')
theorem bl_ne {c x : UInt8} (hx : blB4 x = true) (hc : blB4 c = false) : x ≠ c := fun e => by rw [e, hc] at hx; cases hx
theorem tk_q (c : UInt8) (hc : blB4 c = false) : Qb (tkM c) := by
 intro b l l' hb h
 rcases h.cases hb with ⟨x, t, rfl, rfl⟩ | ⟨rfl, rfl⟩ | ⟨x, r, rfl, rfl, hx, h1, h2⟩
 ·simp only [tkM]
  split
  ·exact .ok _ _ _ (Tl.self _ _) (List.suffix_cons _ _)
  ·exact .no _ _ _ (Tl.self b (x :: t)) (List.suffix_refl _) (by decide)
 ·exact .no _ _ _ (Tl.nn b) (List.suffix_refl _) (by decide)
 ·simp only [tkM]
  rw [if_neg (bl_ne hx hc)]
  exact .no _ _ _ h1 (List.suffix_refl _) (by decide)
theorem wd_q : ∀ (u : List UInt8), (∀ c ∈ u, blB4 c = false) → Qb (wdM u)
 | [], _ => by
  intro b l l' hb h
  simp only [wdM]
  exact .ok _ _ _ h (List.suffix_refl _)
 | c :: u, hu => by
  intro b l l' hb h
  rcases h.cases hb with ⟨x, t, rfl, rfl⟩ | ⟨rfl, rfl⟩ | ⟨x, r, rfl, rfl, hx, h1, h2⟩
  ·simp only [wdM]
   split
   ·exact (wd_q u (fun c hc => hu c (List.mem_cons_of_mem _ hc)) b t (t ++ b) hb (Tl.self _ _)).mono (List.suffix_cons _ _)
   ·exact .no _ _ _ (Tl.self b (x :: t)) (List.suffix_refl _) (by decide)
  ·exact .no _ _ _ (Tl.nn b) (List.suffix_refl _) (by decide)
  ·simp only [wdM]
   rw [if_neg (bl_ne hx (hu c List.mem_cons_self))]
   exact .no _ _ _ h1 (List.suffix_refl _) (by decide)
theorem sk_bk : ∀ l : List UInt8, Bk l → skB l = []
 | [], _ => rfl
 | c :: l, h => by rw [skB_cons, if_pos (h c List.mem_cons_self)]; exact sk_bk l (fun x hx => h x (List.mem_cons_of_mem _ hx))
theorem sk_suf : ∀ l : List UInt8, skB l <:+ l
 | [] => List.suffix_refl _
 | c :: l => by
  rw [skB_cons]
  split
  ·exact (sk_suf l).trans (List.suffix_cons _ _)
  ·exact List.suffix_refl _
theorem sk_app (b : List UInt8) (hb : Bk b) : ∀ l : List UInt8, (skB l ≠ [] ∧ skB (l ++ b) = skB l ++ b) ∨ (skB l = [] ∧ skB (l ++ b) = [])
 | [] => .inr ⟨rfl, sk_bk b hb⟩
 | c :: l => by
  rw [List.cons_append, skB_cons, skB_cons]
  split
  ·exact sk_app b hb l
  ·exact .inl ⟨List.cons_ne_nil _ _, rfl⟩
theorem sk_q {b l l' : List UInt8} (hb : Bk b) (h : Tl b l l') : (∃ c t, skB l = c :: t ∧ skB l' = c :: (t ++ b) ∧ blB4 c = false) ∨ (skB l = [] ∧ skB l' = []) := by
 have hn : ∀ (l : List UInt8) (c : UInt8) (t : List UInt8), skB l = c :: t → blB4 c = false := by
  intro l
  induction l with
  | nil => intro c t e; cases e
  | cons x l ih =>
   intro c t e
   rw [skB_cons] at e
   split at e
   ·exact ih c t e
   ·rename_i hx
    cases e
    simpa using hx
 rcases h with ⟨h1, rfl⟩ | ⟨rfl, h2⟩
 ·rcases sk_app b hb l with ⟨k1, k2⟩ | ⟨k1, k2⟩
  ·cases e : skB l with
   | nil => exact absurd e k1
   | cons c t => exact .inl ⟨c, t, rfl, by rw [k2, e]; rfl, hn l c t e⟩
  ·exact .inr ⟨k1, k2⟩
 ·exact .inr ⟨rfl, sk_bk _ (fun c hc => hb c (h2.subset hc))⟩
theorem sk_tl {b l l' : List UInt8} (hb : Bk b) (h : Tl b l l') : Tl b (skB l) (skB l') := by
 rcases sk_q hb h with ⟨c, t, e1, e2, _⟩ | ⟨e1, e2⟩
 ·rw [e1, e2]; exact Tl.self b (c :: t)
 ·rw [e1, e2]; exact Tl.nn b
theorem bl_dg {c : UInt8} (h : blB4 c = true) : dgB4 c = false := by
 unfold blB4 at h
 simp only [Bool.or_eq_true, beq_iff_eq] at h
 rcases h with ((rfl | rfl) | rfl) | rfl <;> decide
theorem bl_hx {c : UInt8} (h : blB4 c = true) : hxB c = none := by
 unfold blB4 at h
 simp only [Bool.or_eq_true, beq_iff_eq] at h
 rcases h with ((rfl | rfl) | rfl) | rfl <;> decide
theorem bl_es {c : UInt8} (h : blB4 c = true) : escV c = none := by
 unfold blB4 at h
 simp only [Bool.or_eq_true, beq_iff_eq] at h
 rcases h with ((rfl | rfl) | rfl) | rfl <;> decide
theorem dgl_q (m : Nat) {b : List UInt8} (hb : Bk b) : ∀ (l : List UInt8) (n : Nat) (l' : List UInt8), Tl b l l' → Ou b l (dgL m n l) (dgL m n l')
 | l, n, l', h => by
  rcases h.cases hb with ⟨x, t, rfl, rfl⟩ | ⟨rfl, rfl⟩ | ⟨x, r, rfl, rfl, hx, h1, h2⟩
  ·simp only [dgL]
   split
   ·split
    ·exact .no _ _ _ (Tl.self b (x :: t)) (List.suffix_refl _) (by decide)
    ·exact (dgl_q m hb t _ (t ++ b) (Tl.self _ _)).mono (List.suffix_cons _ _)
   ·exact .ok _ _ _ (Tl.self b (x :: t)) (List.suffix_refl _)
  ·simp only [dgL]
   exact .ok _ _ _ (Tl.nn b) (List.suffix_refl _)
  ·simp only [dgL]
   rw [if_neg (by rw [bl_dg hx]; simp)]
   exact .ok _ _ _ h1 (List.suffix_refl _)
 termination_by l => l.length
theorem dgm_q (m : Nat) : Qb (dgM m) := by
 intro b l l' hb h
 rcases h.cases hb with ⟨x, t, rfl, rfl⟩ | ⟨rfl, rfl⟩ | ⟨x, r, rfl, rfl, hx, h1, h2⟩
 ·simp only [dgM]
  split
  ·rcases (Tl.self b t).cases hb with ⟨y, u, rfl, e⟩ | ⟨rfl, e⟩ | ⟨y, u, rfl, e, hy, k1, k2⟩
   ·rw [e]
    simp only
    split
    ·exact .no _ _ _ (Tl.self b (y :: u)) (List.suffix_cons _ _) (by decide)
    ·exact .ok _ _ _ (Tl.self b (y :: u)) (List.suffix_cons _ _)
   ·rw [e]
    exact .ok _ _ _ (Tl.nn b) (List.suffix_cons _ _)
   ·rw [e]
    simp only
    rw [if_neg (by rw [bl_dg hy]; simp)]
    exact .ok _ _ _ k1 (List.suffix_cons _ _)
  ·split
   ·exact dgl_q m hb (x :: t) 0 (x :: (t ++ b)) (Tl.self b (x :: t))
   ·exact .no _ _ _ (Tl.self b (x :: t)) (List.suffix_refl _) (by decide)
 ·exact .no _ _ _ (Tl.nn b) (List.suffix_refl _) (by decide)
 ·simp only [dgM]
  rw [if_neg (bl_ne hx (by decide)), if_neg (by rw [bl_dg hx]; simp)]
  exact .no _ _ _ h1 (List.suffix_refl _) (by decide)
theorem frac_q {b l l' : List UInt8} (hb : Bk b) (h : Tl b l l') : fracB l' = fracB l := by
 rcases h.cases hb with ⟨x, t, rfl, rfl⟩ | ⟨rfl, rfl⟩ | ⟨x, r, rfl, rfl, hx, h1, h2⟩
 ·rfl
 ·rfl
 ·unfold blB4 at hx
  simp only [Bool.or_eq_true, beq_iff_eq] at hx
  rcases hx with ((rfl | rfl) | rfl) | rfl <;> rfl
theorem nu_q : Qb nuM := by
 intro b l l' hb h
 have key : ∀ (neg : Bool) (k k' : List UInt8), k <:+ l → Tl b k k' → Ou b l (match dgM (if neg then 9223372036854775808 else 9223372036854775807) k with | .no r y => .no r y | .ok n r => if fracB r then .no r 42 else .ok (if neg then -(n : Int) else (n : Int)) r) (match dgM (if neg then 9223372036854775808 else 9223372036854775807) k' with | .no r y => .no r y | .ok n r => if fracB r then .no r 42 else .ok (if neg then -(n : Int) else (n : Int)) r) := by
  intro neg k k' hs hk
  have hd := dgm_q (if neg then 9223372036854775808 else 9223372036854775807) b k k' hb hk
  generalize dgM (if neg then 9223372036854775808 else 9223372036854775807) k = x at hd ⊢
  generalize dgM (if neg then 9223372036854775808 else 9223372036854775807) k' = x' at hd ⊢
  cases hd with
  | no r r' y h1 h2 h3 => exact .no _ _ _ h1 (h2.trans hs) h3
  | ok n r r' h1 h2 =>
   simp only
   rw [frac_q hb h1]
   split
   ·exact .no _ _ _ h1 (h2.trans hs) (by decide)
   ·exact .ok _ _ _ h1 (h2.trans hs)
 rcases h.cases hb with ⟨x, t, rfl, rfl⟩ | ⟨rfl, rfl⟩ | ⟨x, r, rfl, rfl, hx, h1, h2⟩
 ·by_cases hx : x = 45
  ·subst hx
   exact key true t (t ++ b) (List.suffix_cons _ _) (Tl.self _ _)
  ·have e : (x == 45) = false := by simpa using hx
   have := key false (x :: t) (x :: (t ++ b)) (List.suffix_refl _) (Tl.self b (x :: t))
   unfold nuM
   simp only [e]
   exact this
 ·exact key false [] [] (List.suffix_refl _) (Tl.nn b)
 ·have e : (x == 45) = false := by simpa using bl_ne hx (show blB4 45 = false by decide)
  have := key false [] (x :: r) (List.suffix_refl _) h1
  unfold nuM
  simp only [e]
  exact this
theorem un_q (fit : Nat → Nat → Bool) {b : List UInt8} (hb : Bk b) : ∀ (k n : Nat) (l l' : List UInt8), Tl b l l' → Ou b l (unM fit k n l) (unM fit k n l')
 | 0, n, l, l', h => by simp only [unM]; exact .ok _ _ _ h (List.suffix_refl _)
 | k + 1, n, l, l', h => by
  rcases h.cases hb with ⟨x, t, rfl, rfl⟩ | ⟨rfl, rfl⟩ | ⟨x, r, rfl, rfl, hx, h1, h2⟩
  ·simp only [unM]
   cases hxB x with
   | none => exact .no _ _ _ (Tl.self b (x :: t)) (List.suffix_refl _) (by decide)
   | some d =>
    simp only
    split
    ·exact (un_q fit hb k _ t (t ++ b) (Tl.self _ _)).mono (List.suffix_cons _ _)
    ·exact .no _ _ _ (Tl.self b (x :: t)) (List.suffix_refl _) (by decide)
  ·exact .no _ _ _ (Tl.nn b) (List.suffix_refl _) (by decide)
  ·simp only [unM, bl_hx hx]
   exact .no _ _ _ h1 (List.suffix_refl _) (by decide)
theorem hc_q : Qb hcM := by
 intro b l l' hb h
 have h0 := un_q fitH hb 4 0 l l' h
 unfold hcM
 generalize unM fitH 4 0 l = x at h0 ⊢
 generalize unM fitH 4 0 l' = x' at h0 ⊢
 cases h0 with
 | no r r' y h1 h2 h3 => exact .no _ _ _ h1 h2 h3
 | ok hh r r' h1 h2 =>
  simp only
  split
  ·have h3 := wd_q [92, 117] (by decide) b r r' hb h1
   generalize wdM [92, 117] r = x at h3 ⊢
   generalize wdM [92, 117] r' = x' at h3 ⊢
   cases h3 with
   | no r2 r2' y k1 k2 k3 => exact .no _ _ _ k1 (k2.trans h2) k3
   | ok u r2 r2' k1 k2 =>
    simp only
    have h4 := un_q fitL hb 4 0 r2 r2' k1
    generalize unM fitL 4 0 r2 = x at h4 ⊢
    generalize unM fitL 4 0 r2' = x' at h4 ⊢
    cases h4 with
    | no r3 r3' y j1 j2 j3 => exact .no _ _ _ j1 (j2.trans (k2.trans h2)) j3
    | ok lo r3 r3' j1 j2 => exact .ok _ _ _ j1 (j2.trans (k2.trans h2))
  ·exact .ok _ _ _ h1 h2
theorem es_q : Qb esM := by
 intro b l l' hb h
 have h0 := tk_q 92 (by decide) b l l' hb h
 unfold esM
 generalize tkM 92 l = x at h0 ⊢
 generalize tkM 92 l' = x' at h0 ⊢
 cases h0 with
 | no r r' y h1 h2 h3 => exact .no _ _ _ h1 h2 h3
 | ok u r r' h1 h2 =>
  rcases h1.cases hb with ⟨x, t, rfl, rfl⟩ | ⟨rfl, rfl⟩ | ⟨x, t, rfl, rfl, hx, k1, k2⟩
  ·simp only
   have ht : t <:+ l := (List.suffix_cons _ _).trans h2
   split
   ·exact (hc_q b t (t ++ b) hb (Tl.self _ _)).mono ht
   ·cases escV x with
    | none => exact .no _ _ _ (Tl.self b (x :: t)) h2 (by decide)
    | some n => exact .ok _ _ _ (Tl.self b t) ht
  ·exact .no _ _ _ (Tl.nn b) h2 (by decide)
  ·simp only
   rw [if_neg (bl_ne hx (by decide)), bl_es hx]
   exact .no _ _ _ k1 h2 (by decide)
theorem bl_lt {c : UInt8} (h : blB4 c = true) : c.toNat < 128 := by
 unfold blB4 at h
 simp only [Bool.or_eq_true, beq_iff_eq] at h
 rcases h with ((rfl | rfl) | rfl) | rfl <;> decide
theorem lo_ge (a : Nat) : 128 ≤ (if a = 224 then 160 else if a = 240 then 144 else 128) := by
 split
 ·omega
 ·split <;> omega
/-- No character that is begun goes on with a byte below 128. -/
theorem ch_low (p : List UInt8) (hp : p ≠ []) (hf : fuB p = false) (c : UInt8) (hc : c.toNat < 128) : fuB (p ++ [c]) = true ∧ chr (p ++ [c]) ≠ none := by
 have hd : c.toNat / 64 ≠ 2 := by omega
 have fin : d4 (p ++ [c]) = (65533, 1) → chr (p ++ [c]) ≠ none := fun e => by rw [chr_bad _ (by simp) e]; simp
 match p, hp with
 | [a], _ =>
  have ha : 194 ≤ a.toNat ∧ a.toNat ≤ 244 := by
   unfold fuB at hf
   simp only at hf
   split at hf
   ·cases hf
   ·omega
  refine ⟨?_, fin ?_⟩
  ·have hlo := lo_ge a.toNat
   unfold fuB
   simp only [List.cons_append, List.nil_append]
   generalize (if a.toNat = 224 then 160 else if a.toNat = 240 then 144 else 128) = lo at hlo ⊢
   rw [if_neg (by omega)]
   by_cases h2 : a.toNat < 224
   ·rw [if_pos h2]; simp
   ·rw [if_neg h2, if_neg (by simp only [List.length_cons, List.length_nil]; split <;> omega), if_pos (by left; omega)]
  ·unfold d4 Lib.decodeN
   simp only [List.cons_append, List.nil_append, List.getD_cons_zero, List.getD_cons_succ, List.length_cons, List.length_nil]
   rw [if_neg (by omega), if_neg (by omega), if_neg (by omega), if_neg (by omega)]
 | [a, e], _ =>
  have ha : 224 ≤ a.toNat ∧ a.toNat ≤ 244 := by
   unfold fuB at hf
   simp only at hf
   split at hf
   ·cases hf
   ·split at hf
    ·simp at hf
    ·omega
  refine ⟨?_, fin ?_⟩
  ·unfold fuB
   simp only [List.cons_append, List.nil_append]
   rw [if_neg (by omega), if_neg (by omega)]
   by_cases h4 : a.toNat < 240
   ·rw [if_pos h4, if_pos (by simp)]
   ·rw [if_neg h4, if_neg (by simp)]
    rw [show decide (c.toNat < 128 ∨ 191 < c.toNat) = true from decide_eq_true (Or.inl hc)]
    simp
  ·unfold d4 Lib.decodeN
   simp only [List.cons_append, List.nil_append, List.getD_cons_zero, List.getD_cons_succ, List.length_cons, List.length_nil]
   rw [if_neg (by omega), if_neg (by omega), if_neg (by omega), if_neg (by omega)]
 | [a, e, f], _ =>
  have ha : 240 ≤ a.toNat ∧ a.toNat ≤ 244 := by
   unfold fuB at hf
   simp only at hf
   split at hf
   ·cases hf
   ·split at hf
    ·simp at hf
    ·by_cases h4 : a.toNat < 240
     ·rw [if_pos h4, if_pos (by simp)] at hf; cases hf
     ·omega
  refine ⟨?_, fin ?_⟩
  ·unfold fuB
   simp only [List.cons_append, List.nil_append]
   rw [if_neg (by omega), if_neg (by omega), if_neg (show ¬ a.toNat < 240 by omega), if_pos (by simp)]
  ·unfold d4 Lib.decodeN
   simp only [List.cons_append, List.nil_append, List.getD_cons_zero, List.getD_cons_succ, List.length_cons, List.length_nil]
   rw [if_neg (by omega), if_neg (by omega), if_neg (by omega), if_neg (by omega)]
 | a :: e :: f :: g :: t, _ =>
  exfalso
  unfold fuB at hf
  simp only at hf
  split at hf
  ·cases hf
  ·split at hf
   ·simp at hf
   ·rw [if_pos (by simp only [List.length_cons]; split <;> omega)] at hf
    cases hf
theorem chl_q {b : List UInt8} (hb : Bk b) : ∀ (l p l' : List UInt8), (p = [] → l ≠ []) → (p ≠ [] → fuB p = false) → Tl b l l' → Ou b l (chL p l) (chL p l')
 | l, p, l', hp, hf, h => by
  rcases h.cases hb with ⟨x, t, rfl, rfl⟩ | ⟨rfl, rfl⟩ | ⟨x, r, rfl, rfl, hx, h1, h2⟩
  ·simp only [chL]
   split
   ·split
    ·exact .ok _ _ _ (Tl.self _ _) (List.suffix_cons _ _)
    ·exact .no _ _ _ (Tl.self b (x :: t)) (List.suffix_refl _) (by decide)
   ·rename_i hfu
    exact (chl_q hb t (p ++ [x]) (t ++ b) (fun e => by simp at e) (fun _ => by simpa using hfu) (Tl.self _ _)).mono (List.suffix_cons _ _)
  ·exact .no _ _ _ (Tl.nn b) (List.suffix_refl _) (by decide)
  ·have hpn : p ≠ [] := fun e => hp e rfl
   obtain ⟨k1, k2⟩ := ch_low p hpn (hf hpn) x (bl_lt hx)
   simp only [chL]
   rw [if_pos k1, if_neg k2]
   exact .no _ _ _ h1 (List.suffix_refl _) (by decide)
 termination_by l => l.length
theorem ch_q {b : List UInt8} (hb : Bk b) (c : UInt8) (t : List UInt8) : Ou b (c :: t) (chM (c :: t)) (chM (c :: (t ++ b))) := chl_q hb (c :: t) [] _ (fun _ => by simp) (fun h => absurd rfl h) (Tl.self b (c :: t))
theorem uq_bl {b : List UInt8} (hb : Bk b) : ∀ (f : Nat) (l' acc : List UInt8), Tl b [] l' → l'.length < f → ∃ r', uqL f acc l' = .no r' 40 ∧ Tl b [] r'
 | 0, l', acc, h, hf => by omega
 | f + 1, l', acc, h, hf => by
  rcases h.cases hb with ⟨x, t, e, _⟩ | ⟨_, rfl⟩ | ⟨x, r, _, rfl, hx, h1, h2⟩
  ·cases e
  ·exact ⟨[], rfl, Tl.nn b⟩
  ·simp only [uqL]
   rw [if_neg (bl_ne hx (by decide)), if_neg (bl_ne hx (by decide))]
   split
   ·exact ⟨_, rfl, h1⟩
   ·rename_i h32
    have e : x = 32 := by
     unfold blB4 at hx
     simp only [Bool.or_eq_true, beq_iff_eq] at hx
     rcases hx with ((rfl | rfl) | rfl) | rfl
     ·rfl
     all_goals exact absurd (by decide) h32
    subst e
    have e2 : chM (32 :: r) = .ok [32] r := by
     unfold chM
     simp only [chL, List.nil_append]
     rw [if_pos (by decide), if_pos]
     rw [chr_go _ (by simp) (by decide)]
     have : d4 [32] = (32, 1) := by decide
     rw [this]
     simp [chr_nil]
    rw [e2]
    exact uq_bl hb f r _ h2 (by simp at hf; omega)
theorem uql_q {b : List UInt8} (hb : Bk b) : ∀ (f f' : Nat) (acc l l' : List UInt8), Tl b l l' → l.length < f → l'.length < f' → Ou b l (uqL f acc l) (uqL f' acc l')
 | 0, f', acc, l, l', h, hf, hf' => by omega
 | f + 1, 0, acc, l, l', h, hf, hf' => by omega
 | f + 1, f' + 1, acc, l, l', h, hf, hf' => by
  by_cases hl : l = []
  ·subst hl
   obtain ⟨r', e, k⟩ := uq_bl hb (f' + 1) l' acc h hf'
   rw [e]
   exact .no _ _ _ k (List.suffix_refl _) (by decide)
  ·rcases h with ⟨_, rfl⟩ | ⟨e, _⟩
   ·cases l with
    | nil => exact absurd rfl hl
    | cons c t =>
     simp only [List.cons_append, uqL]
     simp only [List.length_cons, List.cons_append, List.length_append] at hf hf'
     split
     ·exact .ok _ _ _ (Tl.self b (c :: t)) (List.suffix_refl _)
     ·split
      ·have h0 := es_q b (c :: t) (c :: (t ++ b)) hb (Tl.self b (c :: t))
       have e1 := es_len (c :: t)
       have e2 := es_len (c :: (t ++ b))
       generalize esM (c :: t) = x at h0 e1 ⊢
       generalize esM (c :: (t ++ b)) = x' at h0 e2 ⊢
       cases h0 with
       | no r r' y h1 h2 h3 => exact .no _ _ _ h1 h2 h3
       | ok n r r' h1 h2 =>
        have k1 := e1 n r rfl
        have k2 := e2 n r' rfl
        simp only [List.length_cons, List.length_append] at k1 k2
        exact (uql_q hb f f' _ r r' h1 (by omega) (by omega)).mono h2
      ·split
       ·exact .no _ _ _ (Tl.self b (c :: t)) (List.suffix_refl _) (by decide)
       ·have h0 := ch_q hb c t
        have e1 : ∀ q r, chM (c :: t) = .ok q r → r.length < t.length + 1 := fun q r e => by
         obtain ⟨u, k1, _, k3⟩ := ch_len _ _ _ _ e
         have := congrArg List.length k1
         have := List.length_pos_iff.2 k3
         simp at *; omega
        have e2 : ∀ q r, chM (c :: (t ++ b)) = .ok q r → r.length < t.length + b.length + 1 := fun q r e => by
         obtain ⟨u, k1, _, k3⟩ := ch_len _ _ _ _ e
         have := congrArg List.length k1
         have := List.length_pos_iff.2 k3
         simp at *; omega
        generalize chM (c :: t) = x at h0 e1 ⊢
        generalize chM (c :: (t ++ b)) = x' at h0 e2 ⊢
        cases h0 with
        | no r r' y h1 h2 h3 => exact .no _ _ _ h1 h2 h3
        | ok n r r' h1 h2 =>
         have k1 := e1 n r rfl
         have k2 := e2 n r' rfl
         exact (uql_q hb f f' _ r r' h1 (by omega) (by omega)).mono h2
   ·exact absurd e hl
theorem uq_q : Qb uqM := by
 intro b l l' hb h
 have h0 := tk_q 34 (by decide) b l l' hb h
 unfold uqM
 generalize tkM 34 l = x at h0 ⊢
 generalize tkM 34 l' = x' at h0 ⊢
 cases h0 with
 | no r r' y h1 h2 h3 => exact .no _ _ _ h1 h2 h3
 | ok u r r' h1 h2 => exact (uql_q hb _ _ [] r r' h1 (Nat.lt_succ_self _) (Nat.lt_succ_self _)).mono h2
end Go.Proofs.YtmpjeahibfdehaaGreatDoor
end
section
set_option linter.unusedVariables false
namespace Go.Proofs.YtmpjeahibfdehaaGreatDoor
open Go.RowKit

theorem mb_q (V : List UInt8 → Rs Js) (hV : Qb V) (ns : List (List UInt8)) : Qb (mbM V ns) := by
 intro b l l' hb h
 have h0 := uq_q b l l' hb h
 unfold mbM
 generalize uqM l = x at h0 ⊢
 generalize uqM l' = x' at h0 ⊢
 cases h0 with
 | no r r' y h1 h2 h3 => exact .no _ _ _ h1 h2 h3
 | ok nm r r' h1 h2 =>
  simp only
  split
  ·exact .no _ _ _ h1 h2 (by decide)
  ·have h3 := tk_q 34 (by decide) b r r' hb h1
   generalize tkM 34 r = x at h3 ⊢
   generalize tkM 34 r' = x' at h3 ⊢
   cases h3 with
   | no r2 r2' y k1 k2 k3 => exact .no _ _ _ k1 (k2.trans h2) k3
   | ok u r2 r2' k1 k2 =>
    simp only
    have h4 := tk_q 58 (by decide) b (skB r2) (skB r2') hb (sk_tl hb k1)
    generalize tkM 58 (skB r2) = x at h4 ⊢
    generalize tkM 58 (skB r2') = x' at h4 ⊢
    have hs := (sk_suf r2).trans (k2.trans h2)
    cases h4 with
    | no r3 r3' y j1 j2 j3 => exact .no _ _ _ j1 (j2.trans hs) j3
    | ok u r3 r3' j1 j2 =>
     simp only
     have h5 := hV b (skB r3) (skB r3') hb (sk_tl hb j1)
     generalize V (skB r3) = x at h5 ⊢
     generalize V (skB r3') = x' at h5 ⊢
     have hs2 := (sk_suf r3).trans (j2.trans hs)
     cases h5 with
     | no r4 r4' y i1 i2 i3 => exact .no _ _ _ i1 (i2.trans hs2) i3
     | ok v r4 r4' i1 i2 => exact .ok _ _ _ i1 (i2.trans hs2)
theorem li_q (V : List UInt8 → Rs Js) (hV : Qb V) (hL : VaL V) {b : List UInt8} (hb : Bk b) : ∀ (f f' : Nat) (acc : List Js) (l l' : List UInt8), Tl b l l' → l.length < f → l'.length < f' → Ou b l (liL V f acc l) (liL V f' acc l')
 | 0, f', acc, l, l', h, hf, hf' => by omega
 | f + 1, 0, acc, l, l', h, hf, hf' => by omega
 | f + 1, f' + 1, acc, l, l', h, hf, hf' => by
  have h0 := hV b l l' hb h
  have e1 := hL l
  have e2 := hL l'
  simp only [liL]
  generalize V l = x at h0 e1 ⊢
  generalize V l' = x' at h0 e2 ⊢
  cases h0 with
  | no r r' y h1 h2 h3 => exact .no _ _ _ h1 h2 h3
  | ok v r r' h1 h2 =>
   simp only
   have k1 := e1 v r rfl
   have k2 := e2 v r' rfl
   have s1 := skB_le r
   have s2 := skB_le r'
   have hs := (sk_suf r).trans h2
   rcases sk_q hb h1 with ⟨c, t, i1, i2, _⟩ | ⟨i1, i2⟩
   ·rw [i1] at s1 hs
    rw [i2] at s2
    rw [i1, i2]
    simp only
    simp only [List.length_cons, List.length_append] at s1 s2
    have ht : t <:+ l := (List.suffix_cons _ _).trans hs
    split
    ·have s3 := skB_le t
     have s4 := skB_le (t ++ b)
     simp only [List.length_append] at s4
     exact (li_q V hV hL hb f f' _ (skB t) (skB (t ++ b)) (sk_tl hb (Tl.self _ _)) (by omega) (by omega)).mono ((sk_suf t).trans ht)
    ·exact .ok _ _ _ (Tl.self b (c :: t)) hs
   ·rw [i1, i2]
    exact .ok _ _ _ (Tl.nn b) List.nil_suffix
theorem ob_q (V : List UInt8 → Rs Js) (hV : Qb V) (hL : VaL V) {b : List UInt8} (hb : Bk b) : ∀ (f f' : Nat) (ns : List (List UInt8)) (is : List Js) (l l' : List UInt8), Tl b l l' → l.length < f → l'.length < f' → Ou b l (obL V f ns is l) (obL V f' ns is l')
 | 0, f', ns, is, l, l', h, hf, hf' => by omega
 | f + 1, 0, ns, is, l, l', h, hf, hf' => by omega
 | f + 1, f' + 1, ns, is, l, l', h, hf, hf' => by
  have h0 := mb_q V hV ns b l l' hb h
  have e1 := fun x r => mb_len V hL ns l r x
  have e2 := fun x r => mb_len V hL ns l' r x
  simp only [obL]
  generalize mbM V ns l = x at h0 e1 ⊢
  generalize mbM V ns l' = x' at h0 e2 ⊢
  cases h0 with
  | no r r' y h1 h2 h3 => exact .no _ _ _ h1 h2 h3
  | ok v r r' h1 h2 =>
   simp only
   have k1 := e1 v r rfl
   have k2 := e2 v r' rfl
   have s1 := skB_le r
   have s2 := skB_le r'
   have hs := (sk_suf r).trans h2
   rcases sk_q hb h1 with ⟨c, t, i1, i2, _⟩ | ⟨i1, i2⟩
   ·rw [i1] at s1 hs
    rw [i2] at s2
    rw [i1, i2]
    simp only
    simp only [List.length_cons, List.length_append] at s1 s2
    have ht : t <:+ l := (List.suffix_cons _ _).trans hs
    split
    ·have s3 := skB_le t
     have s4 := skB_le (t ++ b)
     simp only [List.length_append] at s4
     exact (ob_q V hV hL hb f f' _ _ (skB t) (skB (t ++ b)) (sk_tl hb (Tl.self _ _)) (by omega) (by omega)).mono ((sk_suf t).trans ht)
    ·exact .ok _ _ _ (Tl.self b (c :: t)) hs
   ·rw [i1, i2]
    exact .ok _ _ _ (Tl.nn b) List.nil_suffix
theorem mm_q {α : Type} (cl : UInt8) (hcl : blB4 cl = false) (z : α) (L : List UInt8 → Rs α) {b : List UInt8} (hb : Bk b) (hL : ∀ l l', Tl b l l' → Ou b l (L l) (L l')) {l l' : List UInt8} (h : Tl b l l') : Ou b l (mmM cl z L l) (mmM cl z L l') := by
 have key : ∀ x x' : Rs α, Ou b l x x' → Ou b l (match x with | .no r y => .no r y | .ok a r => match tkM cl r with | .no r2 y => .no r2 y | .ok _ r2 => .ok a r2) (match x' with | .no r y => .no r y | .ok a r => match tkM cl r with | .no r2 y => .no r2 y | .ok _ r2 => .ok a r2) := by
  intro x x' hx
  cases hx with
  | no r r' y h1 h2 h3 => exact .no _ _ _ h1 h2 h3
  | ok v r r' h1 h2 =>
   simp only
   have h3 := tk_q cl hcl b r r' hb h1
   generalize tkM cl r = x at h3 ⊢
   generalize tkM cl r' = x' at h3 ⊢
   cases h3 with
   | no r2 r2' y k1 k2 k3 => exact .no _ _ _ k1 (k2.trans h2) k3
   | ok u r2 r2' k1 k2 => exact .ok _ _ _ k1 (k2.trans h2)
 have hs := sk_suf l
 rcases sk_q hb h with ⟨c, t, i1, i2, _⟩ | ⟨i1, i2⟩
 ·rw [i1] at hs
  unfold mmM
  rw [i1, i2]
  simp only
  by_cases hc : c = cl
  ·rw [if_pos hc, if_pos hc]
   exact key _ _ (.ok z _ _ (Tl.self b (c :: t)) hs)
  ·rw [if_neg hc, if_neg hc]
   exact key _ _ ((hL _ _ (Tl.self b (c :: t))).mono hs)
 ·unfold mmM
  rw [i1, i2]
  exact key _ _ ((hL _ _ (Tl.nn b)).mono List.nil_suffix)
theorem va_q (V : Option (List UInt8 → Rs Js)) (hV : ∀ Vf, V = some Vf → Qb Vf ∧ VaL Vf) : Qb (vaF V) := by
 intro b l l' hb h
 rcases h.cases hb with ⟨c, t, rfl, rfl⟩ | ⟨rfl, rfl⟩ | ⟨c, r, rfl, rfl, hx, h1, h2⟩
 ·have hT : Tl b (c :: t) (c :: (t ++ b)) := Tl.self b (c :: t)
  have hs : t <:+ c :: t := List.suffix_cons _ _
  unfold vaF
  simp only
  split
  ·cases V with
   | none => exact .no _ _ _ hT (List.suffix_refl _) (by decide)
   | some Vf =>
    obtain ⟨hq, hl⟩ := hV Vf rfl
    simp only
    have h0 := mm_q 125 (by decide) (([], []) : List (List UInt8) × List Js) (fun l => obL Vf (l.length + 1) [] [] l) hb (fun l l' h => ob_q Vf hq hl hb _ _ [] [] l l' h (Nat.lt_succ_self _) (Nat.lt_succ_self _)) (Tl.self b t)
    generalize mmM 125 ([], []) (fun l => obL Vf (l.length + 1) [] [] l) t = x at h0 ⊢
    generalize mmM 125 ([], []) (fun l => obL Vf (l.length + 1) [] [] l) (t ++ b) = x' at h0 ⊢
    cases h0 with
    | no r r' y h1 h2 h3 => exact .no _ _ _ h1 (h2.trans hs) h3
    | ok v r r' h1 h2 => exact .ok _ _ _ h1 (h2.trans hs)
  ·split
   ·cases V with
    | none => exact .no _ _ _ hT (List.suffix_refl _) (by decide)
    | some Vf =>
     obtain ⟨hq, hl⟩ := hV Vf rfl
     simp only
     have h0 := mm_q 93 (by decide) ([] : List Js) (fun l => liL Vf (l.length + 1) [] l) hb (fun l l' h => li_q Vf hq hl hb _ _ [] l l' h (Nat.lt_succ_self _) (Nat.lt_succ_self _)) (Tl.self b t)
     generalize mmM 93 [] (fun l => liL Vf (l.length + 1) [] l) t = x at h0 ⊢
     generalize mmM 93 [] (fun l => liL Vf (l.length + 1) [] l) (t ++ b) = x' at h0 ⊢
     cases h0 with
     | no r r' y h1 h2 h3 => exact .no _ _ _ h1 (h2.trans hs) h3
     | ok v r r' h1 h2 => exact .ok _ _ _ h1 (h2.trans hs)
   ·split
    ·have h0 := uq_q b (c :: t) (c :: (t ++ b)) hb hT
     generalize uqM (c :: t) = x at h0 ⊢
     generalize uqM (c :: (t ++ b)) = x' at h0 ⊢
     cases h0 with
     | no r r' y h1 h2 h3 => exact .no _ _ _ h1 h2 h3
     | ok v r r' h1 h2 =>
      simp only
      have h3 := tk_q 34 (by decide) b r r' hb h1
      generalize tkM 34 r = x at h3 ⊢
      generalize tkM 34 r' = x' at h3 ⊢
      cases h3 with
      | no r2 r2' y k1 k2 k3 => exact .no _ _ _ k1 (k2.trans h2) k3
      | ok u r2 r2' k1 k2 => exact .ok _ _ _ k1 (k2.trans h2)
    ·split
     ·have h0 := nu_q b (c :: t) (c :: (t ++ b)) hb hT
      generalize nuM (c :: t) = x at h0 ⊢
      generalize nuM (c :: (t ++ b)) = x' at h0 ⊢
      cases h0 with
      | no r r' y h1 h2 h3 => exact .no _ _ _ h1 h2 h3
      | ok v r r' h1 h2 => exact .ok _ _ _ h1 h2
     ·have wk : ∀ (u : List UInt8) (j : Js), (∀ c ∈ u, blB4 c = false) → Ou b (c :: t) (match wdM u (c :: t) with | .no r2 y => .no r2 y | .ok _ r2 => .ok j r2) (match wdM u (c :: (t ++ b)) with | .no r2 y => .no r2 y | .ok _ r2 => .ok j r2) := by
       intro u j hu
       have h0 := wd_q u hu b (c :: t) (c :: (t ++ b)) hb hT
       generalize wdM u (c :: t) = x at h0 ⊢
       generalize wdM u (c :: (t ++ b)) = x' at h0 ⊢
       cases h0 with
       | no r r' y h1 h2 h3 => exact .no _ _ _ h1 h2 h3
       | ok v r r' h1 h2 => exact .ok _ _ _ h1 h2
      split
      ·exact wk _ _ (by decide)
      ·split
       ·exact wk _ _ (by decide)
       ·split
        ·exact wk _ _ (by decide)
        ·exact .no _ _ _ hT (List.suffix_refl _) (by decide)
 ·exact .no _ _ _ (Tl.nn b) (List.suffix_refl _) (by decide)
 ·unfold vaF
  simp only
  rw [if_neg (bl_ne hx (by decide)), if_neg (bl_ne hx (by decide)), if_neg (bl_ne hx (by decide)), if_neg (fun e => e.elim (fun e => bl_ne hx (by decide) e) (fun e => by rw [bl_dg hx] at e; cases e)), if_neg (bl_ne hx (by decide)), if_neg (bl_ne hx (by decide)), if_neg (bl_ne hx (by decide))]
  exact .no _ _ _ h1 (List.suffix_refl _) (by decide)
theorem vaM_q : ∀ n, Qb (vaM n)
 | 0 => va_q none (fun _ e => by cases e)
 | n + 1 => va_q (some (vaM n)) (fun Vf e => by cases e; exact ⟨vaM_q n, va_len n⟩)
theorem sk_pre (a s : List UInt8) (ha : Bk a) : skB (a ++ s) = skB s := by
 induction a with
 | nil => rfl
 | cons c a ih => rw [List.cons_append, skB_cons, if_pos (ha c List.mem_cons_self)]; exact ih (fun x hx => ha x (List.mem_cons_of_mem _ hx))
/-- Blanks around a text. -/
theorem blanks_math (a s b : List UInt8) (ha : Bk a) (hb : Bk b) (hl : (a ++ s ++ b).length ≤ 65536) :
  ((psM s).2.2 = 0 → psM (a ++ s ++ b) = ((psM s).1, 0, 0)) ∧
  ((psM s).2.2 ≠ 0 → (psM (a ++ s ++ b)).1 = Js.nul ∧ (psM (a ++ s ++ b)).2.2 = (psM s).2.2 ∧ ((psM (a ++ s ++ b)).2.1 = (psM s).2.1 + a.length ∨ (psM s).2.1 = s.length ∧ (psM s).2.1 + a.length < (psM (a ++ s ++ b)).2.1)) := by
 have hs : s.length ≤ 65536 := by simp only [List.length_append] at hl; omega
 have e0 : skB (a ++ s ++ b) = skB (s ++ b) := by rw [List.append_assoc, sk_pre a _ ha]
 unfold psM
 rw [if_neg (by omega), if_neg (by omega), e0]
 have h0 := vaM_q 16 b (skB s) (skB (s ++ b)) hb (sk_tl hb (Tl.self b s))
 have hss := sk_suf s
 generalize vaM 16 (skB s) = x at h0 ⊢
 generalize vaM 16 (skB (s ++ b)) = x' at h0 ⊢
 simp only [List.length_append] at hl ⊢
 cases h0 with
 | no r r' y h1 h2 h3 =>
  have hle := (h2.trans hss).length_le
  refine ⟨fun e => absurd e h3, fun _ => ⟨rfl, rfl, ?_⟩⟩
  simp only
  rcases h1 with ⟨_, rfl⟩ | ⟨rfl, k⟩
  ·left; simp only [List.length_append]; omega
  ·have := k.length_le
   simp only [List.length_nil]
   omega
 | ok v r r' h1 h2 =>
  have hle := (h2.trans hss).length_le
  have hsl := (sk_suf r).length_le
  simp only
  rcases sk_q hb h1 with ⟨c, t, i1, i2, _⟩ | ⟨i1, i2⟩
  ·rw [i1] at hsl
   rw [i1, i2]
   refine ⟨fun e => by simp at e, fun _ => ⟨rfl, rfl, .inl ?_⟩⟩
   simp only [List.length_cons, List.length_append] at hsl ⊢
   omega
  ·rw [i1, i2]
   exact ⟨fun _ => rfl, fun e => absurd rfl e⟩
theorem psM_err (s : List UInt8) (h : (psM s).2.2 = 0) : (psM s).2.1 = 0 := by
 have key := (blanks_math [] s [] (fun _ h => by cases h) (fun _ h => by cases h))
 by_cases hl : s.length ≤ 65536
 ·have := (key (by simpa using hl)).1 h
  simp only [List.nil_append, List.append_nil] at this
  rw [this]
 ·unfold psM
  rw [if_pos (by omega)]
end Go.Proofs.YtmpjeahibfdehaaGreatDoor
end
section
set_option linter.unusedVariables false
set_option maxRecDepth 1000000
namespace Go.Proofs.YtmpjeahibfdehaaGreatDoor
open Go.RowKit

theorem owns_low {w : World} {base base' : Nat} {ty : TypeId} {z : Nat} {a : Option Addr} {cap n : Nat} {xs : List Value} (h : w.ownsRow base ty z (.slice a n cap) n xs) (hb : base' ≤ base) : w.ownsRow base' ty z (.slice a n cap) n xs := by
 refine ⟨h.1, ?_⟩
 rcases h.2 with hn | ⟨g, cap, cur, hv, hbb, rest⟩
 ·exact .inl hn
 ·exact .inr ⟨g, cap, cur, hv, Nat.le_trans hb hbb, rest⟩
theorem OwnT.nsf {w : World} {base : Nat} {a : Option Addr} {cap : Nat} {l : List (List UInt8)} (h : OwnT w base a cap l) {S : Nat → Prop} (hS : ∀ k, blk a = some k → S k) : NsF w S a l := by
 intro hne
 rcases owns_cases h with ⟨_, _, h3, _⟩ | ⟨g, cur, rfl, hb, hg, hle, hm, hs, ht, hl⟩
 ·exact absurd (List.eq_nil_of_length_eq_zero h3) hne
 ·refine ⟨g, 0, rfl, hS g rfl, fun i s hs => ?_⟩
  rw [Nat.zero_add]
  exact (owns_cell h i _ (nsv_get l i s hs)).1
theorem owns_cap {w : World} {base : Nat} {ty : TypeId} {z : Nat} {a : Option Addr} {cap n : Nat} {xs : List Value} (h : w.ownsRow base ty z (.slice a n cap) n xs) : n ≤ cap ∧ cap ≤ maxLen ∧ (a = none → cap = 0) := by
 rcases owns_cases h with ⟨h1, h2, h3, _⟩ | ⟨g, cur, h1, _, _, h4, h5, _⟩
 ·exact ⟨by omega, by unfold maxLen; omega, fun _ => h2⟩
 ·exact ⟨h4, h5, fun e => by rw [h1] at e; cases e⟩
/-- All that the world has. -/
def Al (w : World) : Nat → Prop := fun k => k < w.heap.size
theorem JV.al {w w' : World} {S : Nat → Prop} {v : Value} {j : Js} (h : JV w S v j) (hS : ∀ k, S k → k < w.heap.size) (hb : Below w.heap.size w w') : JV w' (Al w') v j :=
 JV.keep (fun k hk => ⟨Nat.lt_of_lt_of_le (hS k hk) hb.size, hb.block k (hS k hk)⟩) _ _ h
end Go.Proofs.YtmpjeahibfdehaaGreatDoor
end
