/-
  CHARACTERS: where the first byte stands with which none begins: the model, and two texts one behind the other.; jsonx's parser as mathematics: what is read of a list of bytes, what is left, and where and why it is given up.
-/
import Derived.Test.YtmpjeahibfdehaaGreatDoorPkMackad
import Derived.Lib.DecodeN
section
set_option linter.unusedVariables false
namespace Go.Proofs.YtmpjeahibfdehaaGreatDoor

def d4 (l : List UInt8) : Nat × Nat := Lib.decodeN l.length (l.getD 0 0).toNat (l.getD 1 0).toNat (l.getD 2 0).toNat (l.getD 3 0).toNat

theorem d4_long (l r : List UInt8) (h : 4 ≤ l.length) : d4 (l ++ r) = d4 l := by
 match l, h with
 | a :: b :: c :: d :: t, _ =>
  have h1 : 1 < (a :: b :: c :: d :: t).length := by simp
  have h2 : 2 < (a :: b :: c :: d :: t).length := by simp
  have h3 : 3 < (a :: b :: c :: d :: t).length := by simp
  have k1 : 1 < ((a :: b :: c :: d :: t) ++ r).length := by simp
  have k2 : 2 < ((a :: b :: c :: d :: t) ++ r).length := by simp
  have k3 : 3 < ((a :: b :: c :: d :: t) ++ r).length := by simp
  unfold d4 Lib.decodeN
  simp only [h1, h2, h3, k1, k2, k3, true_and]
  rfl
theorem d4_size (l : List UInt8) (h : l ≠ []) : 1 ≤ (d4 l).2 ∧ (d4 l).2 ≤ l.length := by
 have hl : 1 ≤ l.length := List.length_pos_iff.2 h
 unfold d4 Lib.decodeN
 repeat' split
 all_goals (simp only; omega)
theorem d4_good (l r : List UInt8) (h : l ≠ []) (hg : d4 l ≠ (65533, 1)) : d4 (l ++ r) = d4 l := by
 by_cases h4 : 4 ≤ l.length
 ·exact d4_long l r h4
 ·match l, h, h4 with
  | [a], _, _ =>
   unfold d4 Lib.decodeN at hg ⊢
   simp at hg ⊢
   by_cases ha : a.toNat < 128
   ·simp [ha]
   ·simp [ha] at hg
  | [a, b], _, _ =>
   unfold d4 Lib.decodeN at hg ⊢
   simp at hg ⊢
   by_cases ha : a.toNat < 128
   ·simp [ha]
   ·by_cases hb : a.toNat / 32 = 6 ∧ b.toNat / 64 = 2
    ·simp [ha, hb]
    ·simp [ha, hb] at hg
  | [a, b, c], _, _ =>
   unfold d4 Lib.decodeN at hg ⊢
   simp at hg ⊢
   by_cases ha : a.toNat < 128
   ·simp [ha]
   ·by_cases hb : a.toNat / 32 = 6 ∧ b.toNat / 64 = 2
    ·simp [ha, hb]
    ·by_cases hc : a.toNat / 16 = 14 ∧ b.toNat / 64 = 2 ∧ c.toNat / 64 = 2
     ·simp [ha, hc]
     ·simp [ha, hb, hc] at hg
  | a :: b :: c :: d :: t, _, h4 => exact absurd (by simp) h4

def chr (l : List UInt8) : Option Nat :=
 if h : l = [] then none
 else if d4 l = (65533, 1) then some 0
 else (chr (l.drop (d4 l).2)).map (· + (d4 l).2)
termination_by l.length
decreasing_by
 have := d4_size l h
 simp
 omega
theorem chr_nil : chr [] = none := by rw [chr]; simp
theorem chr_bad (l : List UInt8) (h : l ≠ []) (hb : d4 l = (65533, 1)) : chr l = some 0 := by rw [chr, dif_neg h, if_pos hb]
theorem chr_go (l : List UInt8) (h : l ≠ []) (hb : d4 l ≠ (65533, 1)) : chr l = (chr (l.drop (d4 l).2)).map (· + (d4 l).2) := by rw [chr, dif_neg h, if_neg hb]

theorem chr_lt : ∀ (n : Nat) (l : List UInt8), l.length ≤ n → ∀ x, chr l = some x → x < l.length
 | 0, l, hn, x, hx => by
  have : l = [] := List.eq_nil_of_length_eq_zero (by omega)
  subst this
  rw [chr_nil] at hx; cases hx
 | n + 1, l, hn, x, hx => by
  by_cases h : l = []
  ·subst h; rw [chr_nil] at hx; cases hx
  ·have hs := d4_size l h
   by_cases hb : d4 l = (65533, 1)
   ·rw [chr_bad l h hb] at hx
    have := Option.some.inj hx
    have := List.length_pos_iff.2 h
    omega
   ·rw [chr_go l h hb] at hx
    cases hc : chr (l.drop (d4 l).2) with
    | none => rw [hc] at hx; cases hx
    | some y =>
     rw [hc] at hx
     have := chr_lt n (l.drop (d4 l).2) (by simp; omega) y hc
     have e := Option.some.inj hx
     simp only [List.length_drop] at this
     simp only at e
     omega
theorem chr_none_append : ∀ (n : Nat) (a b : List UInt8), a.length ≤ n → chr a = none → chr (a ++ b) = (chr b).map (· + a.length)
 | 0, a, b, hn, hx => by
  have : a = [] := List.eq_nil_of_length_eq_zero (by omega)
  subst this
  simp
 | n + 1, a, b, hn, hx => by
  by_cases h : a = []
  ·subst h; simp
  ·have hs := d4_size a h
   by_cases hb : d4 a = (65533, 1)
   ·rw [chr_bad a h hb] at hx; cases hx
   ·rw [chr_go a h hb] at hx
    have hx2 : chr (a.drop (d4 a).2) = none := by
     cases hc : chr (a.drop (d4 a).2) with
     | none => rfl
     | some y => rw [hc] at hx; cases hx
    have hg := d4_good a b h hb
    rw [chr_go (a ++ b) (by simp [h]) (by rw [hg]; exact hb), hg, List.drop_append_of_le_length hs.2, chr_none_append n (a.drop (d4 a).2) b (by simp; omega) hx2]
    cases chr b with
    | none => rfl
    | some y => simp; omega
theorem chr_some_append : ∀ (n : Nat) (a b : List UInt8), a.length ≤ n → ∀ x, chr a = some x → chr (a ++ b) = some x ∨ (a.length ≤ x + 3 ∧ (chr (a ++ b) = none ∨ ∃ y, chr (a ++ b) = some y ∧ x < y))
 | 0, a, b, hn, x, hx => by
  have : a = [] := List.eq_nil_of_length_eq_zero (by omega)
  subst this
  rw [chr_nil] at hx; cases hx
 | n + 1, a, b, hn, x, hx => by
  by_cases h : a = []
  ·subst h; rw [chr_nil] at hx; cases hx
  ·have hs := d4_size a h
   have hne : a ++ b ≠ [] := by simp [h]
   by_cases hb : d4 a = (65533, 1)
   ·rw [chr_bad a h hb] at hx
    obtain rfl := Option.some.inj hx
    by_cases h4 : 4 ≤ a.length
    ·left
     exact chr_bad _ hne (by rw [d4_long a b h4]; exact hb)
    ·by_cases hb2 : d4 (a ++ b) = (65533, 1)
     ·left; exact chr_bad _ hne hb2
     ·right
      refine ⟨by omega, ?_⟩
      rw [chr_go _ hne hb2]
      have hs2 := d4_size _ hne
      cases chr ((a ++ b).drop (d4 (a ++ b)).2) with
      | none => left; rfl
      | some y => right; exact ⟨y + (d4 (a ++ b)).2, rfl, by omega⟩
   ·rw [chr_go a h hb] at hx
    have hg := d4_good a b h hb
    have e : chr (a ++ b) = (chr (a.drop (d4 a).2 ++ b)).map (· + (d4 a).2) := by
     rw [chr_go (a ++ b) hne (by rw [hg]; exact hb), hg, List.drop_append_of_le_length hs.2]
    cases hc : chr (a.drop (d4 a).2) with
    | none => rw [hc] at hx; cases hx
    | some y =>
     rw [hc] at hx
     have ex := Option.some.inj hx
     simp only at ex
     rw [e]
     rcases chr_some_append n (a.drop (d4 a).2) b (by simp; omega) y hc with h1 | ⟨h1, h2 | ⟨z, h2, h3⟩⟩
     ·left; rw [h1, ← ex]; rfl
     ·right
      simp only [List.length_drop] at h1
      exact ⟨by omega, .inl (by rw [h2]; rfl)⟩
     ·right
      simp only [List.length_drop] at h1
      exact ⟨by omega, .inr ⟨z + (d4 a).2, by rw [h2]; rfl, by omega⟩⟩

def chI (l : List UInt8) : Int := match chr l with
 | none => -1
 | some x => (x : Int)
end Go.Proofs.YtmpjeahibfdehaaGreatDoor
end
section
set_option linter.unusedVariables false
namespace Go.Proofs.YtmpjeahibfdehaaGreatDoor
open Go.RowKit

/-- A value, field by field. -/
inductive Js where
 | mk (k n : Int) (t : List UInt8) (ns : List (List UInt8)) (is : List Js)
def Js.nul : Js := .mk 0 0 [] [] []
/-- What is read and what is left; or what is left where it is given up, and why. -/
inductive Rs (α : Type) where
 | ok (v : α) (r : List UInt8)
 | no (r : List UInt8) (y : Nat)
def blB4 (c : UInt8) : Bool := c == 32 || c == 9 || c == 10 || c == 13
def dgB4 (c : UInt8) : Bool := decide (48 ≤ c.toNat) && decide (c.toNat ≤ 57)
/-- Behind blanks. -/
def skB (l : List UInt8) : List UInt8 := l.dropWhile blB4
theorem skB_cons (c : UInt8) (l : List UInt8) : skB (c :: l) = if blB4 c then skB l else c :: l := by
 unfold skB
 rw [List.dropWhile_cons]
theorem skB_nil : skB [] = [] := rfl
theorem skB_le (l : List UInt8) : (skB l).length ≤ l.length := by
 induction l with
 | nil => simp [skB]
 | cons c l ih => rw [skB_cons]; split <;> simp; omega
def tkM (c : UInt8) : List UInt8 → Rs Unit
 | [] => .no [] 40
 | x :: l => if x = c then .ok () l else .no (x :: l) 40
def wdM : List UInt8 → List UInt8 → Rs Unit
 | [], l => .ok () l
 | _ :: _, [] => .no [] 40
 | c :: u, x :: l => if x = c then wdM u l else .no (x :: l) 40
/-- Digits. -/
def dgL (m : Nat) : Nat → List UInt8 → Rs Nat
 | n, [] => .ok n []
 | n, c :: l => if dgB4 c then (if n > (m - (c.toNat - 48)) / 10 then .no (c :: l) 42 else dgL m (n * 10 + (c.toNat - 48)) l) else .ok n (c :: l)
def dgM (m : Nat) : List UInt8 → Rs Nat
 | [] => .no [] 40
 | c :: l => if c = 48 then (match l with | [] => .ok 0 [] | x :: r => if dgB4 x then .no (x :: r) 40 else .ok 0 (x :: r)) else if dgB4 c then dgL m 0 (c :: l) else .no (c :: l) 40
def fracB (r : List UInt8) : Bool := match r with | [] => false | c :: _ => c == 46 || c == 101 || c == 69
def nuM (l : List UInt8) : Rs Int :=
 let neg := match l with | [] => false | c :: _ => c == 45
 match dgM (if neg then 9223372036854775808 else 9223372036854775807) (if neg then l.drop 1 else l) with
 | .no r y => .no r y
 | .ok n r => if fracB r then .no r 42 else .ok (if neg then -(n : Int) else (n : Int)) r
def hxB (c : UInt8) : Option Nat :=
 if 48 ≤ c.toNat ∧ c.toNat ≤ 57 then some (c.toNat - 48)
 else if 97 ≤ c.toNat ∧ c.toNat ≤ 102 then some (c.toNat - 97 + 10)
 else if 65 ≤ c.toNat ∧ c.toNat ≤ 70 then some (c.toNat - 65 + 10) else none
theorem hxB_lt (c : UInt8) (x : Nat) (h : hxB c = some x) : x < 16 := by
 unfold hxB at h
 split at h
 ·cases h; omega
 ·split at h
  ·cases h; omega
  ·split at h
   ·cases h; omega
   ·cases h
/-- Four hexadecimal digits of which those that may come have a right one. -/
def unM (fit : Nat → Nat → Bool) : Nat → Nat → List UInt8 → Rs Nat
 | 0, n, l => .ok n l
 | _ + 1, _, [] => .no [] 40
 | k + 1, n, c :: l => match hxB c with
  | none => .no (c :: l) 40
  | some d => if fit ((n * 16 + d) * 16 ^ k) ((n * 16 + d) * 16 ^ k + (16 ^ k - 1)) then unM fit k (n * 16 + d) l else .no (c :: l) 40
def fitH (a b : Nat) : Bool := !(decide (56320 ≤ a) && decide (a ≤ 57343) && (decide (56320 ≤ b) && decide (b ≤ 57343)))
def fitL (a b : Nat) : Bool := decide (56320 ≤ b) && decide (a ≤ 57343)
def hcM (l : List UInt8) : Rs Nat :=
 match unM fitH 4 0 l with
 | .no r y => .no r y
 | .ok h r => if 55296 ≤ h ∧ h ≤ 56319 then (match wdM [92, 117] r with
   | .no r2 y => .no r2 y
   | .ok _ r2 => match unM fitL 4 0 r2 with
    | .no r3 y => .no r3 y
    | .ok lo r3 => .ok (65536 + (h - 55296) * 1024 + (lo - 56320)) r3) else .ok h r
/-- What stands behind a stroke. -/
def escV (c : UInt8) : Option Nat :=
 if c = 34 then some 34 else if c = 92 then some 92 else if c = 47 then some 47 else if c = 98 then some 8 else if c = 102 then some 12 else if c = 110 then some 10 else if c = 114 then some 13 else if c = 116 then some 9 else none
def esM (l : List UInt8) : Rs Nat :=
 match tkM 92 l with
 | .no r y => .no r y
 | .ok _ [] => .no [] 40
 | .ok _ (c :: r) => if c = 117 then hcM r else match escV c with | none => .no (c :: r) 40 | some n => .ok n r
/-- Might these bytes be no longer the beginning of a character alone? -/
def fuB (l : List UInt8) : Bool :=
 match l with
 | [] => false
 | a :: r =>
  let x := a.toNat
  if x < 194 ∨ 244 < x then true
  else if x < 224 then decide (2 ≤ l.length)
  else
   let lo := if x = 224 then 160 else if x = 240 then 144 else 128
   let hi := if x = 237 then 159 else if x = 244 then 143 else 191
   let s := if x < 240 then 3 else 4
   if s ≤ l.length then true
   else match r with
    | [] => false
    | b :: r2 => if b.toNat < lo ∨ hi < b.toNat then true else match r2 with
     | [] => false
     | c :: _ => decide (c.toNat < 128 ∨ 191 < c.toNat)
def chL : List UInt8 → List UInt8 → Rs (List UInt8)
 | _, [] => .no [] 40
 | p, c :: r => if fuB (p ++ [c]) then (if chr (p ++ [c]) = none then .ok (p ++ [c]) r else .no (c :: r) 40) else chL (p ++ [c]) r
def chM (l : List UInt8) : Rs (List UInt8) := chL [] l
/-- A character's bytes. -/
def enB (n : Nat) : List UInt8 :=
 if n < 128 then [UInt8.ofNat n]
 else if n < 2048 then [UInt8.ofNat (192 + n / 64), UInt8.ofNat (128 + n % 64)]
 else if n < 65536 then [UInt8.ofNat (224 + n / 4096), UInt8.ofNat (128 + n / 64 % 64), UInt8.ofNat (128 + n % 64)]
 else [UInt8.ofNat (240 + n / 262144), UInt8.ofNat (128 + n / 4096 % 64), UInt8.ofNat (128 + n / 64 % 64), UInt8.ofNat (128 + n % 64)]
/-- A text up to its end, which is left. -/
def uqL : Nat → List UInt8 → List UInt8 → Rs (List UInt8)
 | 0, _, _ => .no [] 40
 | _ + 1, _, [] => .no [] 40
 | f + 1, acc, c :: r =>
  if c = 34 then .ok acc (c :: r)
  else if c = 92 then (match esM (c :: r) with | .no r2 y => .no r2 y | .ok n r2 => uqL f (acc ++ enB n) r2)
  else if c.toNat < 32 then .no (c :: r) 40
  else match chM (c :: r) with | .no r2 y => .no r2 y | .ok p r2 => uqL f (acc ++ p) r2
def uqM (l : List UInt8) : Rs (List UInt8) :=
 match tkM 34 l with
 | .no r y => .no r y
 | .ok _ r => uqL (r.length + 1) [] r
/-- A list's items, from the first on. -/
def liL (V : List UInt8 → Rs Js) : Nat → List Js → List UInt8 → Rs (List Js)
 | 0, _, _ => .no [] 40
 | f + 1, acc, l => match V l with
  | .no r y => .no r y
  | .ok v r => match skB r with
   | [] => .ok (acc ++ [v]) []
   | c :: r2 => if c = 44 then liL V f (acc ++ [v]) (skB r2) else .ok (acc ++ [v]) (c :: r2)
/-- An object's member. -/
def mbM (V : List UInt8 → Rs Js) (seen : List (List UInt8)) (l : List UInt8) : Rs (List UInt8 × Js) :=
 match uqM l with
 | .no r y => .no r y
 | .ok nm r => if nm ∈ seen then .no r 43 else match tkM 34 r with
  | .no r2 y => .no r2 y
  | .ok _ r2 => match tkM 58 (skB r2) with
   | .no r3 y => .no r3 y
   | .ok _ r3 => match V (skB r3) with
    | .no r4 y => .no r4 y
    | .ok v r4 => .ok (nm, v) r4
def obL (V : List UInt8 → Rs Js) : Nat → List (List UInt8) → List Js → List UInt8 → Rs (List (List UInt8) × List Js)
 | 0, _, _, _ => .no [] 40
 | f + 1, ns, is, l => match mbM V ns l with
  | .no r y => .no r y
  | .ok nv r => match skB r with
   | [] => .ok (ns ++ [nv.1], is ++ [nv.2]) []
   | c :: r2 => if c = 44 then obL V f (ns ++ [nv.1]) (is ++ [nv.2]) (skB r2) else .ok (ns ++ [nv.1], is ++ [nv.2]) (c :: r2)
/-- From behind the bracket on: nothing, or items; and the bracket that closes. -/
def mmM {α : Type} (cl : UInt8) (z : α) (L : List UInt8 → Rs α) (l : List UInt8) : Rs α :=
 let m : Rs α := match skB l with
  | [] => L []
  | c :: r => if c = cl then .ok z (c :: r) else L (c :: r)
 match m with
 | .no r y => .no r y
 | .ok a r => match tkM cl r with
  | .no r2 y => .no r2 y
  | .ok _ r2 => .ok a r2
def vaF (V : Option (List UInt8 → Rs Js)) (l : List UInt8) : Rs Js :=
 match l with
 | [] => .no [] 40
 | c :: r =>
  if c = 123 then (match V with
   | none => .no (c :: r) 41
   | some V => match mmM 125 ([], []) (fun l => obL V (l.length + 1) [] [] l) r with | .no r2 y => .no r2 y | .ok x r2 => .ok (.mk 5 0 [] x.1 x.2) r2)
  else if c = 91 then (match V with
   | none => .no (c :: r) 41
   | some V => match mmM 93 [] (fun l => liL V (l.length + 1) [] l) r with | .no r2 y => .no r2 y | .ok x r2 => .ok (.mk 4 0 [] [] x) r2)
  else if c = 34 then (match uqM (c :: r) with
   | .no r2 y => .no r2 y
   | .ok t r2 => match tkM 34 r2 with | .no r3 y => .no r3 y | .ok _ r3 => .ok (.mk 3 0 t [] []) r3)
  else if c = 45 ∨ dgB4 c = true then (match nuM (c :: r) with | .no r2 y => .no r2 y | .ok n r2 => .ok (.mk 2 n [] [] []) r2)
  else if c = 116 then (match wdM [116, 114, 117, 101] (c :: r) with | .no r2 y => .no r2 y | .ok _ r2 => .ok (.mk 1 1 [] [] []) r2)
  else if c = 102 then (match wdM [102, 97, 108, 115, 101] (c :: r) with | .no r2 y => .no r2 y | .ok _ r2 => .ok (.mk 1 0 [] [] []) r2)
  else if c = 110 then (match wdM [110, 117, 108, 108] (c :: r) with | .no r2 y => .no r2 y | .ok _ r2 => .ok Js.nul r2)
  else .no (c :: r) 40
def vaM : Nat → List UInt8 → Rs Js
 | 0, l => vaF none l
 | n + 1, l => vaF (some (vaM n)) l
/-- Parse. -/
def psM (l : List UInt8) : Js × Nat × Nat :=
 if 65536 < l.length then (Js.nul, 0, 4)
 else match vaM 16 (skB l) with
  | .no r y => (Js.nul, l.length - r.length, y)
  | .ok v r => match skB r with
   | [] => (v, 0, 0)
   | c :: r2 => (Js.nul, l.length - (c :: r2).length, 40)
/-- Where in a text what is left begins. -/
theorem drop_cons {T l : List UInt8} {a : Nat} {c : UInt8} (h : T.drop a = c :: l) : a < T.length ∧ T[a]? = some c ∧ T.drop (a + 1) = l := by
 have h1 : a < T.length := by
  apply Classical.byContradiction
  intro hn
  rw [List.drop_eq_nil_of_le (by omega)] at h
  cases h
 rw [List.drop_eq_getElem_cons h1] at h
 simp only [List.cons.injEq] at h
 exact ⟨h1, by rw [List.getElem?_eq_getElem h1, h.1], h.2⟩
theorem drop_nil {T : List UInt8} {a : Nat} (h : T.drop a = []) (ha : a ≤ T.length) : a = T.length := by
 have := List.drop_eq_nil_iff.1 h
 omega
end Go.Proofs.YtmpjeahibfdehaaGreatDoor
end
