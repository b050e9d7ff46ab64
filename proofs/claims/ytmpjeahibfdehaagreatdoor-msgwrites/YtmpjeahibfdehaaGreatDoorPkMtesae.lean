/-
  CHARACTERS: where the first byte stands with which none begins: the model, and two texts one behind the other.; jsonx's parser as mathematics: what is read of a list of bytes, what is left, and where and why it is given up.; THE DOCUMENT'S OWN FIRST CHARACTER: the shortest of one to four bytes that is the writing of its own number; it is the model's.; THE WALK of the reference's Chars, over what its first gives.; THE WALK of the reference's char.
-/
import Derived.Test.YtmpjeahibfdehaaGreatDoorPkMtesad
import Derived.Lib.DecodeN
import Derived.Test.YtmpjeahibfdehaaGreatDoorPkMtesac
import Derived.WalkSpells
import Derived.WalkLawsBesides
section
set_option linter.unusedVariables false
namespace Go.Proofs.YtmpjeahibfdehaaGreatDoor

def d4 (l : List UInt8) : Nat × Nat := Lib.decodeN l.length (l.getD 0 0).toNat (l.getD 1 0).toNat (l.getD 2 0).toNat (l.getD 3 0).toNat

theorem d4_long (l r : List UInt8) (h : 4 ≤ l.length) : d4 (l ++ r) = d4 l := by
 match l, h with
 | a :: b :: c :: d :: t, _ =>
  have h1 : 1 < (a :: b :: c :: d :: t).length := by simp
  have h2 : 2 < (a :: b :: c :: d :: t).length := by simp
  have h3 : 3 < (a :: b :: c :: d :: t).length := by simp
  have k1 : 1 < ((a :: b :: c :: d :: t) ++ r).length := by simp
  have k2 : 2 < ((a :: b :: c :: d :: t) ++ r).length := by simp
  have k3 : 3 < ((a :: b :: c :: d :: t) ++ r).length := by simp
  unfold d4 Lib.decodeN
  simp only [h1, h2, h3, k1, k2, k3, true_and]
  rfl
theorem d4_size (l : List UInt8) (h : l ≠ []) : 1 ≤ (d4 l).2 ∧ (d4 l).2 ≤ l.length := by
 have hl : 1 ≤ l.length := List.length_pos_iff.2 h
 unfold d4 Lib.decodeN
 repeat' split
 all_goals (simp only; omega)
theorem d4_good (l r : List UInt8) (h : l ≠ []) (hg : d4 l ≠ (65533, 1)) : d4 (l ++ r) = d4 l := by
 by_cases h4 : 4 ≤ l.length
 ·exact d4_long l r h4
 ·match l, h, h4 with
  | [a], _, _ =>
   unfold d4 Lib.decodeN at hg ⊢
   simp at hg ⊢
   by_cases ha : a.toNat < 128
   ·simp [ha]
   ·simp [ha] at hg
  | [a, b], _, _ =>
   unfold d4 Lib.decodeN at hg ⊢
   simp at hg ⊢
   by_cases ha : a.toNat < 128
   ·simp [ha]
   ·by_cases hb : a.toNat / 32 = 6 ∧ b.toNat / 64 = 2
    ·simp [ha, hb]
    ·simp [ha, hb] at hg
  | [a, b, c], _, _ =>
   unfold d4 Lib.decodeN at hg ⊢
   simp at hg ⊢
   by_cases ha : a.toNat < 128
   ·simp [ha]
   ·by_cases hb : a.toNat / 32 = 6 ∧ b.toNat / 64 = 2
    ·simp [ha, hb]
    ·by_cases hc : a.toNat / 16 = 14 ∧ b.toNat / 64 = 2 ∧ c.toNat / 64 = 2
     ·simp [ha, hc]
     ·simp [ha, hb, hc] at hg
  | a :: b :: c :: d :: t, _, h4 => exact absurd (by simp) h4

def chr (l : List UInt8) : Option Nat :=
 if h : l = [] then none
 else if d4 l = (65533, 1) then some 0
 else (chr (l.drop (d4 l).2)).map (· + (d4 l).2)
termination_by l.length
decreasing_by
 have := d4_size l h
 simp
 omega
theorem chr_nil : chr [] = none := by rw [chr]; simp
theorem chr_bad (l : List UInt8) (h : l ≠ []) (hb : d4 l = (65533, 1)) : chr l = some 0 := by rw [chr, dif_neg h, if_pos hb]
theorem chr_go (l : List UInt8) (h : l ≠ []) (hb : d4 l ≠ (65533, 1)) : chr l = (chr (l.drop (d4 l).2)).map (· + (d4 l).2) := by rw [chr, dif_neg h, if_neg hb]

theorem chr_none_append : ∀ (n : Nat) (a b : List UInt8), a.length ≤ n → chr a = none → chr (a ++ b) = (chr b).map (· + a.length)
 | 0, a, b, hn, hx => by
  have : a = [] := List.eq_nil_of_length_eq_zero (by omega)
  subst this
  simp
 | n + 1, a, b, hn, hx => by
  by_cases h : a = []
  ·subst h; simp
  ·have hs := d4_size a h
   by_cases hb : d4 a = (65533, 1)
   ·rw [chr_bad a h hb] at hx; cases hx
   ·rw [chr_go a h hb] at hx
    have hx2 : chr (a.drop (d4 a).2) = none := by
     cases hc : chr (a.drop (d4 a).2) with
     | none => rfl
     | some y => rw [hc] at hx; cases hx
    have hg := d4_good a b h hb
    rw [chr_go (a ++ b) (by simp [h]) (by rw [hg]; exact hb), hg, List.drop_append_of_le_length hs.2, chr_none_append n (a.drop (d4 a).2) b (by simp; omega) hx2]
    cases chr b with
    | none => rfl
    | some y => simp; omega
def chI (l : List UInt8) : Int := match chr l with
 | none => -1
 | some x => (x : Int)
end Go.Proofs.YtmpjeahibfdehaaGreatDoor
end
section
set_option linter.unusedVariables false
namespace Go.Proofs.YtmpjeahibfdehaaGreatDoor
open Go.RowKit

/-- A value, field by field. -/
inductive Js where
 | mk (k n : Int) (t : List UInt8) (ns : List (List UInt8)) (is : List Js)
def Js.nul : Js := .mk 0 0 [] [] []
/-- What is read and what is left; or what is left where it is given up, and why. -/
inductive Rs (α : Type) where
 | ok (v : α) (r : List UInt8)
 | no (r : List UInt8) (y : Nat)
def blB4 (c : UInt8) : Bool := c == 32 || c == 9 || c == 10 || c == 13
def dgB4 (c : UInt8) : Bool := decide (48 ≤ c.toNat) && decide (c.toNat ≤ 57)
/-- Behind blanks. -/
def skB (l : List UInt8) : List UInt8 := l.dropWhile blB4
theorem skB_cons (c : UInt8) (l : List UInt8) : skB (c :: l) = if blB4 c then skB l else c :: l := by
 unfold skB
 rw [List.dropWhile_cons]
theorem skB_le (l : List UInt8) : (skB l).length ≤ l.length := by
 induction l with
 | nil => simp [skB]
 | cons c l ih => rw [skB_cons]; split <;> simp; omega
def tkM (c : UInt8) : List UInt8 → Rs Unit
 | [] => .no [] 40
 | x :: l => if x = c then .ok () l else .no (x :: l) 40
def wdM : List UInt8 → List UInt8 → Rs Unit
 | [], l => .ok () l
 | _ :: _, [] => .no [] 40
 | c :: u, x :: l => if x = c then wdM u l else .no (x :: l) 40
/-- Digits. -/
def dgL (m : Nat) : Nat → List UInt8 → Rs Nat
 | n, [] => .ok n []
 | n, c :: l => if dgB4 c then (if n > (m - (c.toNat - 48)) / 10 then .no (c :: l) 42 else dgL m (n * 10 + (c.toNat - 48)) l) else .ok n (c :: l)
def dgM (m : Nat) : List UInt8 → Rs Nat
 | [] => .no [] 40
 | c :: l => if c = 48 then (match l with | [] => .ok 0 [] | x :: r => if dgB4 x then .no (x :: r) 40 else .ok 0 (x :: r)) else if dgB4 c then dgL m 0 (c :: l) else .no (c :: l) 40
def fracB (r : List UInt8) : Bool := match r with | [] => false | c :: _ => c == 46 || c == 101 || c == 69
def nuM (l : List UInt8) : Rs Int :=
 let neg := match l with | [] => false | c :: _ => c == 45
 match dgM (if neg then 9223372036854775808 else 9223372036854775807) (if neg then l.drop 1 else l) with
 | .no r y => .no r y
 | .ok n r => if fracB r then .no r 42 else .ok (if neg then -(n : Int) else (n : Int)) r
def hxB (c : UInt8) : Option Nat :=
 if 48 ≤ c.toNat ∧ c.toNat ≤ 57 then some (c.toNat - 48)
 else if 97 ≤ c.toNat ∧ c.toNat ≤ 102 then some (c.toNat - 97 + 10)
 else if 65 ≤ c.toNat ∧ c.toNat ≤ 70 then some (c.toNat - 65 + 10) else none
theorem hxB_lt (c : UInt8) (x : Nat) (h : hxB c = some x) : x < 16 := by
 unfold hxB at h
 split at h
 ·cases h; omega
 ·split at h
  ·cases h; omega
  ·split at h
   ·cases h; omega
   ·cases h
/-- Four hexadecimal digits of which those that may come have a right one. -/
def unM (fit : Nat → Nat → Bool) : Nat → Nat → List UInt8 → Rs Nat
 | 0, n, l => .ok n l
 | _ + 1, _, [] => .no [] 40
 | k + 1, n, c :: l => match hxB c with
  | none => .no (c :: l) 40
  | some d => if fit ((n * 16 + d) * 16 ^ k) ((n * 16 + d) * 16 ^ k + (16 ^ k - 1)) then unM fit k (n * 16 + d) l else .no (c :: l) 40
def fitH (a b : Nat) : Bool := !(decide (56320 ≤ a) && decide (a ≤ 57343) && (decide (56320 ≤ b) && decide (b ≤ 57343)))
def fitL (a b : Nat) : Bool := decide (56320 ≤ b) && decide (a ≤ 57343)
def hcM (l : List UInt8) : Rs Nat :=
 match unM fitH 4 0 l with
 | .no r y => .no r y
 | .ok h r => if 55296 ≤ h ∧ h ≤ 56319 then (match wdM [92, 117] r with
   | .no r2 y => .no r2 y
   | .ok _ r2 => match unM fitL 4 0 r2 with
    | .no r3 y => .no r3 y
    | .ok lo r3 => .ok (65536 + (h - 55296) * 1024 + (lo - 56320)) r3) else .ok h r
/-- What stands behind a stroke. -/
def escV (c : UInt8) : Option Nat :=
 if c = 34 then some 34 else if c = 92 then some 92 else if c = 47 then some 47 else if c = 98 then some 8 else if c = 102 then some 12 else if c = 110 then some 10 else if c = 114 then some 13 else if c = 116 then some 9 else none
def esM (l : List UInt8) : Rs Nat :=
 match tkM 92 l with
 | .no r y => .no r y
 | .ok _ [] => .no [] 40
 | .ok _ (c :: r) => if c = 117 then hcM r else match escV c with | none => .no (c :: r) 40 | some n => .ok n r
/-- Might these bytes be no longer the beginning of a character alone? -/
def fuB (l : List UInt8) : Bool :=
 match l with
 | [] => false
 | a :: r =>
  let x := a.toNat
  if x < 194 ∨ 244 < x then true
  else if x < 224 then decide (2 ≤ l.length)
  else
   let lo := if x = 224 then 160 else if x = 240 then 144 else 128
   let hi := if x = 237 then 159 else if x = 244 then 143 else 191
   let s := if x < 240 then 3 else 4
   if s ≤ l.length then true
   else match r with
    | [] => false
    | b :: r2 => if b.toNat < lo ∨ hi < b.toNat then true else match r2 with
     | [] => false
     | c :: _ => decide (c.toNat < 128 ∨ 191 < c.toNat)
def chL : List UInt8 → List UInt8 → Rs (List UInt8)
 | _, [] => .no [] 40
 | p, c :: r => if fuB (p ++ [c]) then (if chr (p ++ [c]) = none then .ok (p ++ [c]) r else .no (c :: r) 40) else chL (p ++ [c]) r
def chM (l : List UInt8) : Rs (List UInt8) := chL [] l
/-- A character's bytes. -/
def enB (n : Nat) : List UInt8 :=
 if n < 128 then [UInt8.ofNat n]
 else if n < 2048 then [UInt8.ofNat (192 + n / 64), UInt8.ofNat (128 + n % 64)]
 else if n < 65536 then [UInt8.ofNat (224 + n / 4096), UInt8.ofNat (128 + n / 64 % 64), UInt8.ofNat (128 + n % 64)]
 else [UInt8.ofNat (240 + n / 262144), UInt8.ofNat (128 + n / 4096 % 64), UInt8.ofNat (128 + n / 64 % 64), UInt8.ofNat (128 + n % 64)]
/-- A text up to its end, which is left. -/
def uqL : Nat → List UInt8 → List UInt8 → Rs (List UInt8)
 | 0, _, _ => .no [] 40
 | _ + 1, _, [] => .no [] 40
 | f + 1, acc, c :: r =>
  if c = 34 then .ok acc (c :: r)
  else if c = 92 then (match esM (c :: r) with | .no r2 y => .no r2 y | .ok n r2 => uqL f (acc ++ enB n) r2)
  else if c.toNat < 32 then .no (c :: r) 40
  else match chM (c :: r) with | .no r2 y => .no r2 y | .ok p r2 => uqL f (acc ++ p) r2
def uqM (l : List UInt8) : Rs (List UInt8) :=
 match tkM 34 l with
 | .no r y => .no r y
 | .ok _ r => uqL (r.length + 1) [] r
/-- A list's items, from the first on. -/
def liL (V : List UInt8 → Rs Js) : Nat → List Js → List UInt8 → Rs (List Js)
 | 0, _, _ => .no [] 40
 | f + 1, acc, l => match V l with
  | .no r y => .no r y
  | .ok v r => match skB r with
   | [] => .ok (acc ++ [v]) []
   | c :: r2 => if c = 44 then liL V f (acc ++ [v]) (skB r2) else .ok (acc ++ [v]) (c :: r2)
/-- An object's member. -/
def mbM (V : List UInt8 → Rs Js) (seen : List (List UInt8)) (l : List UInt8) : Rs (List UInt8 × Js) :=
 match uqM l with
 | .no r y => .no r y
 | .ok nm r => if nm ∈ seen then .no r 43 else match tkM 34 r with
  | .no r2 y => .no r2 y
  | .ok _ r2 => match tkM 58 (skB r2) with
   | .no r3 y => .no r3 y
   | .ok _ r3 => match V (skB r3) with
    | .no r4 y => .no r4 y
    | .ok v r4 => .ok (nm, v) r4
def obL (V : List UInt8 → Rs Js) : Nat → List (List UInt8) → List Js → List UInt8 → Rs (List (List UInt8) × List Js)
 | 0, _, _, _ => .no [] 40
 | f + 1, ns, is, l => match mbM V ns l with
  | .no r y => .no r y
  | .ok nv r => match skB r with
   | [] => .ok (ns ++ [nv.1], is ++ [nv.2]) []
   | c :: r2 => if c = 44 then obL V f (ns ++ [nv.1]) (is ++ [nv.2]) (skB r2) else .ok (ns ++ [nv.1], is ++ [nv.2]) (c :: r2)
/-- From behind the bracket on: nothing, or items; and the bracket that closes. -/
def mmM {α : Type} (cl : UInt8) (z : α) (L : List UInt8 → Rs α) (l : List UInt8) : Rs α :=
 let m : Rs α := match skB l with
  | [] => L []
  | c :: r => if c = cl then .ok z (c :: r) else L (c :: r)
 match m with
 | .no r y => .no r y
 | .ok a r => match tkM cl r with
  | .no r2 y => .no r2 y
  | .ok _ r2 => .ok a r2
def vaF (V : Option (List UInt8 → Rs Js)) (l : List UInt8) : Rs Js :=
 match l with
 | [] => .no [] 40
 | c :: r =>
  if c = 123 then (match V with
   | none => .no (c :: r) 41
   | some V => match mmM 125 ([], []) (fun l => obL V (l.length + 1) [] [] l) r with | .no r2 y => .no r2 y | .ok x r2 => .ok (.mk 5 0 [] x.1 x.2) r2)
  else if c = 91 then (match V with
   | none => .no (c :: r) 41
   | some V => match mmM 93 [] (fun l => liL V (l.length + 1) [] l) r with | .no r2 y => .no r2 y | .ok x r2 => .ok (.mk 4 0 [] [] x) r2)
  else if c = 34 then (match uqM (c :: r) with
   | .no r2 y => .no r2 y
   | .ok t r2 => match tkM 34 r2 with | .no r3 y => .no r3 y | .ok _ r3 => .ok (.mk 3 0 t [] []) r3)
  else if c = 45 ∨ dgB4 c = true then (match nuM (c :: r) with | .no r2 y => .no r2 y | .ok n r2 => .ok (.mk 2 n [] [] []) r2)
  else if c = 116 then (match wdM [116, 114, 117, 101] (c :: r) with | .no r2 y => .no r2 y | .ok _ r2 => .ok (.mk 1 1 [] [] []) r2)
  else if c = 102 then (match wdM [102, 97, 108, 115, 101] (c :: r) with | .no r2 y => .no r2 y | .ok _ r2 => .ok (.mk 1 0 [] [] []) r2)
  else if c = 110 then (match wdM [110, 117, 108, 108] (c :: r) with | .no r2 y => .no r2 y | .ok _ r2 => .ok Js.nul r2)
  else .no (c :: r) 40
def vaM : Nat → List UInt8 → Rs Js
 | 0, l => vaF none l
 | n + 1, l => vaF (some (vaM n)) l
/-- Parse. -/
def psM (l : List UInt8) : Js × Nat × Nat :=
 if 65536 < l.length then (Js.nul, 0, 4)
 else match vaM 16 (skB l) with
  | .no r y => (Js.nul, l.length - r.length, y)
  | .ok v r => match skB r with
   | [] => (v, 0, 0)
   | c :: r2 => (Js.nul, l.length - (c :: r2).length, 40)
/-- Where in a text what is left begins. -/
theorem drop_cons {T l : List UInt8} {a : Nat} {c : UInt8} (h : T.drop a = c :: l) : a < T.length ∧ T[a]? = some c ∧ T.drop (a + 1) = l := by
 have h1 : a < T.length := by
  apply Classical.byContradiction
  intro hn
  rw [List.drop_eq_nil_of_le (by omega)] at h
  cases h
 rw [List.drop_eq_getElem_cons h1] at h
 simp only [List.cons.injEq] at h
 exact ⟨h1, by rw [List.getElem?_eq_getElem h1, h.1], h.2⟩
theorem drop_nil {T : List UInt8} {a : Nat} (h : T.drop a = []) (ha : a ≤ T.length) : a = T.length := by
 have := List.drop_eq_nil_iff.1 h
 omega
end Go.Proofs.YtmpjeahibfdehaaGreatDoor
end
section
set_option linter.unusedVariables false
namespace Go.Proofs.YtmpjeahibfdehaaGreatDoor

def encL (V : Nat) : List UInt8 :=
 if V < 128 then [UInt8.ofNat V]
 else if V < 2048 then [UInt8.ofNat (192 + V / 64), UInt8.ofNat (128 + V % 64)]
 else if V < 65536 then [UInt8.ofNat (224 + V / 4096), UInt8.ofNat (128 + V / 64 % 64), UInt8.ofNat (128 + V % 64)]
 else [UInt8.ofNat (240 + V / 262144), UInt8.ofNat (128 + V / 4096 % 64), UInt8.ofNat (128 + V / 64 % 64), UInt8.ofNat (128 + V % 64)]
theorem u8eq {x : Nat} (h : x < 256) (a : UInt8) : UInt8.ofNat x = a ↔ x = a.toNat := by
 constructor
 ·intro e; rw [← e]; simp; omega
 ·intro e; rw [e]; simp

def v2 (a b : Nat) : Nat := a % 32 * 64 + b % 64
def v3 (a b c : Nat) : Nat := a % 16 * 4096 + b % 64 * 64 + c % 64
def v4 (a b c d : Nat) : Nat := a % 8 * 262144 + b % 64 * 4096 + c % 64 * 64 + d % 64

theorem enc1 (a : UInt8) : encL a.toNat = [a] ↔ a.toNat < 128 := by
 have := a.toNat_lt
 unfold encL
 repeat' split
 ·simp; omega
 ·simp; omega
 ·exact absurd ‹¬ a.toNat < 2048› (by omega)
 ·exact absurd ‹¬ a.toNat < 2048› (by omega)
theorem enc2F (a b : UInt8) : encL (v2 a.toNat b.toNat) = [a, b] ↔ (128 ≤ v2 a.toNat b.toNat ∧ a.toNat / 32 = 6 ∧ b.toNat / 64 = 2) := by
 have := a.toNat_lt
 have := b.toNat_lt
 have hV : v2 a.toNat b.toNat < 2048 := by unfold v2; omega
 unfold encL
 repeat' split
 ·simp; omega
 ·simp only [List.cons.injEq, and_true]
  rw [u8eq (by omega), u8eq (by omega)]
  unfold v2 at *
  omega
 all_goals omega
theorem enc3 (a b c : UInt8) : encL (v3 a.toNat b.toNat c.toNat) = [a, b, c] ↔ (2048 ≤ v3 a.toNat b.toNat c.toNat ∧ a.toNat / 16 = 14 ∧ b.toNat / 64 = 2 ∧ c.toNat / 64 = 2) := by
 have := a.toNat_lt
 have := b.toNat_lt
 have := c.toNat_lt
 have hV : v3 a.toNat b.toNat c.toNat < 65536 := by unfold v3; omega
 unfold encL
 repeat' split
 ·simp; omega
 ·simp; omega
 ·simp only [List.cons.injEq, and_true]
  rw [u8eq (by omega), u8eq (by omega), u8eq (by omega)]
  unfold v3 at *
  omega
 all_goals omega
theorem enc4 (a b c d : UInt8) : encL (v4 a.toNat b.toNat c.toNat d.toNat) = [a, b, c, d] ↔ (65536 ≤ v4 a.toNat b.toNat c.toNat d.toNat ∧ a.toNat / 8 = 30 ∧ b.toNat / 64 = 2 ∧ c.toNat / 64 = 2 ∧ d.toNat / 64 = 2) := by
 have := a.toNat_lt
 have := b.toNat_lt
 have := c.toNat_lt
 have := d.toNat_lt
 have hV : v4 a.toNat b.toNat c.toNat d.toNat < 2097152 := by unfold v4; omega
 unfold encL
 repeat' split
 ·simp; omega
 ·simp; omega
 ·simp; omega
 ·simp only [List.cons.injEq, and_true]
  rw [u8eq (by omega), u8eq (by omega), u8eq (by omega), u8eq (by omega)]
  unfold v4 at *
  omega

def fval (n : Nat) (l : List UInt8) : Nat := match n with
 | 1 => (l.getD 0 0).toNat
 | 2 => v2 (l.getD 0 0).toNat (l.getD 1 0).toNat
 | 3 => v3 (l.getD 0 0).toNat (l.getD 1 0).toNat (l.getD 2 0).toNat
 | _ => v4 (l.getD 0 0).toNat (l.getD 1 0).toNat (l.getD 2 0).toNat (l.getD 3 0).toNat
def Okn (n : Nat) (l : List UInt8) : Prop := n ≤ l.length ∧ fval n l ≤ 1114111 ∧ ¬ (55296 ≤ fval n l ∧ fval n l < 57344) ∧ encL (fval n l) = l.take n

theorem dec1 (L a b c d : Nat) (ha : a < 256) (hL : 1 ≤ L) : ((Lib.decodeN L a b c d).2 = 1 ∧ Lib.decodeN L a b c d ≠ (65533, 1)) ↔ a < 128 := by
 unfold Lib.decodeN
 repeat' split
 all_goals first
  | exact ⟨fun h => absurd rfl h.2, fun h => absurd h (by omega)⟩
  | exact ⟨fun h => absurd h.1 (by simp), fun h => absurd h (by omega)⟩
  | exact ⟨fun _ => by omega, fun _ => ⟨rfl, fun e => by have e1 := congrArg Prod.fst e; have e2 := congrArg Prod.snd e; dsimp only at e1 e2; omega⟩⟩
theorem dec2 (L a b c d : Nat) (ha : a < 256) (hb : b < 256) : ((Lib.decodeN L a b c d).2 = 2 ∧ Lib.decodeN L a b c d ≠ (65533, 1)) ↔ (2 ≤ L ∧ 128 ≤ v2 a b ∧ a / 32 = 6 ∧ b / 64 = 2) := by
 unfold Lib.decodeN v2
 repeat' split
 all_goals first
  | exact ⟨fun h => absurd rfl h.2, fun h => absurd h (by omega)⟩
  | exact ⟨fun h => absurd h.1 (by simp), fun h => absurd h (by omega)⟩
  | exact ⟨fun _ => by omega, fun _ => ⟨rfl, fun e => by have e1 := congrArg Prod.fst e; have e2 := congrArg Prod.snd e; dsimp only at e1 e2; omega⟩⟩
theorem dec3 (L a b c d : Nat) (ha : a < 256) (hb : b < 256) (hc : c < 256) : ((Lib.decodeN L a b c d).2 = 3 ∧ Lib.decodeN L a b c d ≠ (65533, 1)) ↔ (3 ≤ L ∧ ¬ (55296 ≤ v3 a b c ∧ v3 a b c < 57344) ∧ 2048 ≤ v3 a b c ∧ a / 16 = 14 ∧ b / 64 = 2 ∧ c / 64 = 2) := by
 unfold Lib.decodeN v3
 repeat' split
 all_goals first
  | exact ⟨fun h => absurd rfl h.2, fun h => absurd h (by omega)⟩
  | exact ⟨fun h => absurd h.1 (by simp), fun h => absurd h (by omega)⟩
  | exact ⟨fun _ => by omega, fun _ => ⟨rfl, fun e => by have e1 := congrArg Prod.fst e; have e2 := congrArg Prod.snd e; dsimp only at e1 e2; omega⟩⟩
theorem dec4 (L a b c d : Nat) (ha : a < 256) (hb : b < 256) (hc : c < 256) (hd : d < 256) : ((Lib.decodeN L a b c d).2 = 4 ∧ Lib.decodeN L a b c d ≠ (65533, 1)) ↔ (4 ≤ L ∧ v4 a b c d ≤ 1114111 ∧ 65536 ≤ v4 a b c d ∧ a / 8 = 30 ∧ b / 64 = 2 ∧ c / 64 = 2 ∧ d / 64 = 2) := by
 unfold Lib.decodeN v4
 repeat' split
 all_goals first
  | exact ⟨fun h => absurd rfl h.2, fun h => absurd h (by omega)⟩
  | exact ⟨fun h => absurd h.1 (by simp), fun h => absurd h (by omega)⟩
  | exact ⟨fun _ => by omega, fun _ => ⟨rfl, fun e => by have e1 := congrArg Prod.fst e; have e2 := congrArg Prod.snd e; dsimp only at e1 e2; omega⟩⟩

theorem okn1 (l : List UInt8) (h : l ≠ []) : Okn 1 l ↔ ((d4 l).2 = 1 ∧ d4 l ≠ (65533, 1)) := by
 match l, h with
 | a :: t, _ =>
  have ha := a.toNat_lt
  unfold d4
  rw [dec1 _ _ _ _ _ (UInt8.toNat_lt _) (by simp)]
  unfold Okn fval
  simp only [List.getD_cons_zero, List.length_cons, List.take_succ_cons, List.take_zero]
  rw [enc1]
  omega
theorem okn2 (l : List UInt8) (h : l ≠ []) : Okn 2 l ↔ ((d4 l).2 = 2 ∧ d4 l ≠ (65533, 1)) := by
 unfold d4
 rw [dec2 _ _ _ _ _ (UInt8.toNat_lt _) (UInt8.toNat_lt _)]
 unfold Okn
 match l with
 | [] => simp
 | [a] => simp
 | a :: b :: t =>
  have ha := a.toNat_lt
  have hb := b.toNat_lt
  simp only [fval, List.getD_cons_zero, List.getD_cons_succ, List.length_cons, List.take_succ_cons, List.take_zero]
  rw [enc2F]
  have : v2 a.toNat b.toNat < 2048 := by unfold v2; omega
  omega
theorem okn3 (l : List UInt8) (h : l ≠ []) : Okn 3 l ↔ ((d4 l).2 = 3 ∧ d4 l ≠ (65533, 1)) := by
 unfold d4
 rw [dec3 _ _ _ _ _ (UInt8.toNat_lt _) (UInt8.toNat_lt _) (UInt8.toNat_lt _)]
 unfold Okn
 match l with
 | [] => simp
 | [a] => simp
 | [a, b] => simp
 | a :: b :: c :: t =>
  have ha := a.toNat_lt
  have hb := b.toNat_lt
  have hc := c.toNat_lt
  simp only [fval, List.getD_cons_zero, List.getD_cons_succ, List.length_cons, List.take_succ_cons, List.take_zero]
  rw [enc3]
  have : v3 a.toNat b.toNat c.toNat < 65536 := by unfold v3; omega
  omega
theorem okn4 (l : List UInt8) (h : l ≠ []) : Okn 4 l ↔ ((d4 l).2 = 4 ∧ d4 l ≠ (65533, 1)) := by
 unfold d4
 rw [dec4 _ _ _ _ _ (UInt8.toNat_lt _) (UInt8.toNat_lt _) (UInt8.toNat_lt _) (UInt8.toNat_lt _)]
 unfold Okn
 match l with
 | [] => simp
 | [a] => simp
 | [a, b] => simp
 | [a, b, c] => simp
 | a :: b :: c :: d :: t =>
  have ha := a.toNat_lt
  have hb := b.toNat_lt
  have hc := c.toNat_lt
  have hd := d.toNat_lt
  simp only [fval, List.getD_cons_zero, List.getD_cons_succ, List.length_cons, List.take_succ_cons, List.take_zero]
  rw [enc4]
  omega
theorem okn_iff (n : Nat) (l : List UInt8) (h : l ≠ []) (h1 : 1 ≤ n) (h4 : n ≤ 4) : Okn n l ↔ ((d4 l).2 = n ∧ d4 l ≠ (65533, 1)) := by
 match n, h1, h4 with
 | 1, _, _ => exact okn1 l h
 | 2, _, _ => exact okn2 l h
 | 3, _, _ => exact okn3 l h
 | 4, _, _ => exact okn4 l h
 | n + 5, _, h4 => omega
theorem d4_four (l : List UInt8) : (d4 l).2 ≤ 4 := by
 unfold d4 Lib.decodeN
 repeat' split
 all_goals (simp only; omega)
/-- What the document's first gives. -/
def fst (l : List UInt8) : Nat := if d4 l = (65533, 1) then 0 else (d4 l).2
theorem fst_hit (n : Nat) (l : List UInt8) (h : l ≠ []) (h1 : 1 ≤ n) (h4 : n ≤ 4) (ho : Okn n l) : fst l = n := by
 have := (okn_iff n l h h1 h4).1 ho
 unfold fst
 rw [if_neg this.2, this.1]
theorem fst_none (l : List UInt8) (h : l ≠ []) (hn : ∀ n, 1 ≤ n → n ≤ 4 → n ≤ l.length → ¬ Okn n l) : fst l = 0 := by
 unfold fst
 by_cases hb : d4 l = (65533, 1)
 ·rw [if_pos hb]
 ·have hs := d4_size l h
  have h4 := d4_four l
  exact absurd ((okn_iff (d4 l).2 l h hs.1 h4).2 ⟨rfl, hb⟩) (hn _ hs.1 h4 hs.2)
end Go.Proofs.YtmpjeahibfdehaaGreatDoor
end
section
set_option linter.unusedVariables false
set_option maxRecDepth 1000000
namespace Go.Proofs.YtmpjeahibfdehaaGreatDoor
open Go.RowKit

/-- What the reference's first gives, at every row that holds something. -/
def FirstSays : Prop := ∀ (b off cap : Nat) (l : List UInt8) (w : World), Row w (some ⟨b, off, none⟩) l → l ≠ [] → l.length ≤ cap → l.length ≤ 50000000 → cap ≤ maxLen →
  Calls Tryz.prog 173 #[.slice (some ⟨b, off, none⟩) l.length cap] w fun e w' => e = .returned (.int .i64 ((fst l : Nat) : Int)) ∧ Below w.heap.size w w'

set_option maxHeartbeats 1000000 in
theorem rchars_some (H : FirstSays) (b off cap : Nat) (l : List UInt8) (w : World) (hr : Row w (some ⟨b, off, none⟩) l) (hle : l.length ≤ cap) (hl : l.length ≤ 50000000) (hcm : cap ≤ maxLen) :
  Calls Tryz.prog 152 #[.slice (some ⟨b, off, none⟩) l.length cap] w fun e w' => e = .returned (.int .i64 (chI l)) ∧ Below w.heap.size w w' := by
 have HH := hide H
 have HCM := hide hcm
 clear H hcm
 go_enter Tryz.func152, Tryz.ntmps152
 go_wp2
 go_loopw [3] (fun i wr => ∃ n : Nat, n ≤ l.length ∧ i = .int .i64 (n : Int) ∧ Hid (chr l = (chr (l.drop n)).map (· + n)) ∧ Below w.heap.size w wr) (fun i _ => l.length - (intOf i).toNat)
 case atStart => exact ⟨0, Nat.zero_le _, rfl, (by show _ = _; simp), Below.refl _ _⟩
 case round =>
  obtain ⟨n, hn, rfl, HC, hb⟩ := hrel
  by_cases hlt : n < l.length
  ·have hsl := slice_from b off l.length cap n n wr rfl hn (by omega)
   have hne : l.drop n ≠ [] := by intro e; have := congrArg List.length e; simp at this; omega
   have hrow : Row w (some ⟨b, off + n, none⟩) (l.drop n) := hr.drop n
   have hdl : (l.drop n).length = l.length - n := by simp
   have HD := hide (uh HH b (off + n) (cap - n) (l.drop n) wr (hrow.below hb (Nat.le_refl _)) hne (by omega) (by omega) (by have := uh HCM; omega))
   have hsz := d4_size (l.drop n) hne
   rw [hdl] at hsz HD
   have Hgo := hide (chr_go (l.drop n) hne)
   have Hbad := hide (chr_bad (l.drop n) hne)
   clear hrow hr hdl hne
   obtain ⟨F, hF⟩ : ∃ F, fst (l.drop n) = F := ⟨_, rfl⟩
   rw [hF] at HD
   have HFs : Hid ((F = 0 ∧ d4 (l.drop n) = (65533, 1)) ∨ (F = (d4 (l.drop n)).2 ∧ d4 (l.drop n) ≠ (65533, 1))) := by
    show _ ∨ _
    rw [← hF]
    unfold fst
    by_cases h : d4 (l.drop n) = (65533, 1)
    ·left; rw [if_pos h]; exact ⟨rfl, h⟩
    ·right; rw [if_neg h]; exact ⟨rfl, h⟩
   clear hF
   go_wp2_with fail
   refine (uh HD).mono ?_
   rintro e w2 ⟨rfl, hb2⟩
   have hW2 := hb.trans (hb2.mono hb.size)
   clear HD hb2 hb
   rcases uh HFs with ⟨rfl, hbd⟩ | ⟨hF, hnb⟩
   ·have HF : Hid (chI l = (n : Int)) := by
     show _ = _
     unfold chI
     rw [uh HC, (uh Hbad) hbd]
     simp
    clear HC Hbad Hgo HFs hbd hsz
    go_wp2
    go_ret
    exact ⟨ret_int (uh HF).symm, hW2⟩
   ·rw [← hF] at hsz
    have HF : Hid (chr l = (chr (l.drop (n + F))).map (· + (n + F))) := by
     show _ = _
     rw [uh HC, (uh Hgo) hnb, ← hF, List.drop_drop]
     cases chr (l.drop (n + F)) with
     | none => rfl
     | some y => simp; omega
    have hF0 : ((F : Int) == 0) = false := by simp; omega
    clear HC Hbad Hgo HFs hnb hF
    go_wp2
    go_roundw
    case rel => exact ⟨n + F, by omega, by go_num, HF, hW2⟩
    case measure => simp [intOf]; omega
  ·have HF : Hid (chI l = -1) := by
    show _ = _
    unfold chI
    rw [uh HC, List.drop_of_length_le (by omega), chr_nil]
    rfl
   clear HC
   go_wp2
   go_ret
   exact ⟨ret_int (uh HF).symm, hb⟩

set_option maxHeartbeats 400000 in
theorem rchars_none (a : Option Addr) (cap : Nat) (w : World) :
  Calls Tryz.prog 152 #[.slice a 0 cap] w fun e w' => e = .returned (.int .i64 (-1)) ∧ w' = w := by
 go_enter Tryz.func152, Tryz.ntmps152
 go_wp2
 refine wp_loop_rounds 1 ?_
 rw [rounds_succ]
 go_wp2
 go_ret
 exact ⟨rfl, rfl⟩

theorem rchars_any (H : FirstSays) (a : Option Addr) (n cap : Nat) (l : List UInt8) (w : World) (hB : Bs w a cap l) (hn : n = l.length) (hl : l.length ≤ 50000000) :
  Calls Tryz.prog 152 #[.slice a n cap] w fun e w' => e = .returned (.int .i64 (chI l)) ∧ Below w.heap.size w w' := by
 subst hn
 by_cases h : l = []
 ·subst h
  refine (rchars_none a cap w).mono ?_
  rintro e w' ⟨rfl, rfl⟩
  exact ⟨ret_int (by unfold chI; rw [chr_nil]), Below.refl _ _⟩
 ·obtain ⟨b, off, rfl, _⟩ := hB.row h
  exact rchars_some H b off cap l w hB.row hB.le hl hB.most
end Go.Proofs.YtmpjeahibfdehaaGreatDoor
end
section
set_option linter.unusedVariables false
namespace Go.Proofs.YtmpjeahibfdehaaGreatDoor
open Go.RowKit

theorem row_cs (w : World) (cs : List UInt8) (zs : List Value) (h : zs = cs.map fun c => Value.int .u8 (c.toNat : Int)) : Row (w.alloc (.cells zs.toArray 5)) (some ⟨w.heap.size, 0, none⟩) cs := by
 subst h
 intro _
 refine ⟨w.heap.size, 0, rfl, fun i hi => ?_⟩
 rw [cell_of_row _ w.heap.size (0 + i) _ _ _ (heap_alloc_new w _)]
 simp [hi]

theorem u8n {x : Nat} (h : x < 256) : ((UInt8.ofNat x).toNat : Int) = (x : Int) := by simp; omega
theorem u8c (x : Nat) (h : x < 256) : ∃ c : UInt8, UInt8.ofNat x = c ∧ (x : Int) % 256 = (c.toNat : Int) := ⟨_, rfl, by rw [u8n h]; omega⟩

set_option maxRecDepth 1000000 in
set_option maxHeartbeats 1000000 in
theorem char_any (V : Nat) (w : World) (hV : V ≤ 1114111) :
  Calls Tryz.prog 202 #[.int .i64 (V : Int)] w fun e w' => ∃ a', e = .returned (.slice a' (encL V).length (encL V).length) ∧ Row w' a' (encL V) ∧ Below w.heap.size w w' := by
 by_cases h1 : V < 128
 ·have he : encL V = [UInt8.ofNat V] := by unfold encL; rw [if_pos h1]
  obtain ⟨c0, e0, w0⟩ := u8c V (by omega)
  rw [he, e0]
  have x0 : Hid ((V : Int) = (c0.toNat : Int)) := by show _ = _; have := w0; omega
  clear he e0 hV w0
  have hb := hide ((Below.refl w.heap.size w).alloc (Nat.le_refl _) (.cells #[.int .u8 (c0.toNat : Int)] 5))
  have hr := hide (row_cs w [c0] _ rfl)
  go_enter Tryz.func202, Tryz.ntmps202
  go_wp2
  go_ret
  exact ⟨_, rfl, by rw [uh x0]; exact uh hr, by rw [uh x0]; exact uh hb⟩
 ·by_cases h2 : V < 2048
  ·have he : encL V = [UInt8.ofNat (192 + V / 64), UInt8.ofNat (128 + V % 64)] := by unfold encL; rw [if_neg h1, if_pos h2]
   rw [he]
   obtain ⟨q, hq⟩ : ∃ x : Nat, x = V / 64 := ⟨_, rfl⟩
   obtain ⟨r, hr⟩ : ∃ x : Nat, x = V % 64 := ⟨_, rfl⟩
   have hq1 : (V : Int) / 64 = (q : Int) := by omega
   have hq2 : (V : Int).tdiv 64 = (q : Int) := by rw [hq]; rfl
   have hql : q < 32 := by omega
   have hr1 : (V : Int) % 64 = (r : Int) := by omega
   have hr2 : (V : Int).tmod 64 = (r : Int) := by rw [hr]; rfl
   have hrl : r < 64 := by omega
   rw [← hq, ← hr]
   obtain ⟨c0, e0, w0⟩ := u8c (192 + q) (by omega)
   obtain ⟨c1, e1, w1⟩ := u8c (128 + r) (by omega)
   rw [e0, e1]
   have x0 : Hid (192 + (q : Int) = (c0.toNat : Int)) := by show _ = _; have := w0; omega
   have x1 : Hid (128 + (r : Int) = (c1.toNat : Int)) := by show _ = _; have := w1; omega
   clear he hV e0 w0 e1 w1 hq hr
   have hb := hide ((Below.refl w.heap.size w).alloc (Nat.le_refl _) (.cells #[.int .u8 (c0.toNat : Int), .int .u8 (c1.toNat : Int)] 5))
   have hr := hide (row_cs w [c0, c1] _ rfl)
   go_enter Tryz.func202, Tryz.ntmps202
   go_wp2
   go_ret
   exact ⟨_, rfl, by rw [uh x0, uh x1]; exact uh hr, by rw [uh x0, uh x1]; exact uh hb⟩
  ·by_cases h3 : V < 65536
   ·have he : encL V = [UInt8.ofNat (224 + V / 4096), UInt8.ofNat (128 + V / 64 % 64), UInt8.ofNat (128 + V % 64)] := by unfold encL; rw [if_neg h1, if_neg h2, if_pos h3]
    rw [he]
    obtain ⟨p, hp⟩ : ∃ x : Nat, x = V / 4096 := ⟨_, rfl⟩
    obtain ⟨q, hq⟩ : ∃ x : Nat, x = V / 64 := ⟨_, rfl⟩
    obtain ⟨s, hs⟩ : ∃ x : Nat, x = q % 64 := ⟨_, rfl⟩
    obtain ⟨r, hr⟩ : ∃ x : Nat, x = V % 64 := ⟨_, rfl⟩
    have hp1 : (V : Int) / 4096 = (p : Int) := by omega
    have hp2 : (V : Int).tdiv 4096 = (p : Int) := by rw [hp]; rfl
    have hpl : p < 16 := by omega
    have hq1 : (V : Int) / 64 = (q : Int) := by omega
    have hq2 : (V : Int).tdiv 64 = (q : Int) := by rw [hq]; rfl
    have hql : q < 1024 := by omega
    have hs1 : (q : Int) % 64 = (s : Int) := by omega
    have hs2 : (q : Int).tmod 64 = (s : Int) := by rw [hs]; rfl
    have hsl : s < 64 := by omega
    have hr1 : (V : Int) % 64 = (r : Int) := by omega
    have hr2 : (V : Int).tmod 64 = (r : Int) := by rw [hr]; rfl
    have hrl : r < 64 := by omega
    rw [← hp, ← hq, ← hs, ← hr]
    obtain ⟨c0, e0, w0⟩ := u8c (224 + p) (by omega)
    obtain ⟨c1, e1, w1⟩ := u8c (128 + s) (by omega)
    obtain ⟨c2, e2, w2⟩ := u8c (128 + r) (by omega)
    rw [e0, e1, e2]
    have x0 : Hid (224 + (p : Int) = (c0.toNat : Int)) := by show _ = _; have := w0; omega
    have x1 : Hid (128 + (s : Int) = (c1.toNat : Int)) := by show _ = _; have := w1; omega
    have x2 : Hid (128 + (r : Int) = (c2.toNat : Int)) := by show _ = _; have := w2; omega
    clear he hV e0 w0 e1 w1 e2 w2 hp hq hs hr
    have hb := hide ((Below.refl w.heap.size w).alloc (Nat.le_refl _) (.cells #[.int .u8 (c0.toNat : Int), .int .u8 (c1.toNat : Int), .int .u8 (c2.toNat : Int)] 5))
    have hr := hide (row_cs w [c0, c1, c2] _ rfl)
    go_enter Tryz.func202, Tryz.ntmps202
    go_wp2
    go_ret
    exact ⟨_, rfl, by rw [uh x0, uh x1, uh x2]; exact uh hr, by rw [uh x0, uh x1, uh x2]; exact uh hb⟩
   ·have he : encL V = [UInt8.ofNat (240 + V / 262144), UInt8.ofNat (128 + V / 4096 % 64), UInt8.ofNat (128 + V / 64 % 64), UInt8.ofNat (128 + V % 64)] := by unfold encL; rw [if_neg h1, if_neg h2, if_neg h3]
    rw [he]
    obtain ⟨o, ho⟩ : ∃ x : Nat, x = V / 262144 := ⟨_, rfl⟩
    obtain ⟨p, hp⟩ : ∃ x : Nat, x = V / 4096 := ⟨_, rfl⟩
    obtain ⟨t, ht⟩ : ∃ x : Nat, x = p % 64 := ⟨_, rfl⟩
    obtain ⟨q, hq⟩ : ∃ x : Nat, x = V / 64 := ⟨_, rfl⟩
    obtain ⟨s, hs⟩ : ∃ x : Nat, x = q % 64 := ⟨_, rfl⟩
    obtain ⟨r, hr⟩ : ∃ x : Nat, x = V % 64 := ⟨_, rfl⟩
    have ho1 : (V : Int) / 262144 = (o : Int) := by omega
    have ho2 : (V : Int).tdiv 262144 = (o : Int) := by rw [ho]; rfl
    have hol : o < 8 := by omega
    have hp1 : (V : Int) / 4096 = (p : Int) := by omega
    have hp2 : (V : Int).tdiv 4096 = (p : Int) := by rw [hp]; rfl
    have hpl : p < 512 := by omega
    have ht1 : (p : Int) % 64 = (t : Int) := by omega
    have ht2 : (p : Int).tmod 64 = (t : Int) := by rw [ht]; rfl
    have htl : t < 64 := by omega
    have hq1 : (V : Int) / 64 = (q : Int) := by omega
    have hq2 : (V : Int).tdiv 64 = (q : Int) := by rw [hq]; rfl
    have hql : q < 32768 := by omega
    have hs1 : (q : Int) % 64 = (s : Int) := by omega
    have hs2 : (q : Int).tmod 64 = (s : Int) := by rw [hs]; rfl
    have hsl : s < 64 := by omega
    have hr1 : (V : Int) % 64 = (r : Int) := by omega
    have hr2 : (V : Int).tmod 64 = (r : Int) := by rw [hr]; rfl
    have hrl : r < 64 := by omega
    rw [← ho, ← hp, ← ht, ← hq, ← hs, ← hr]
    obtain ⟨c0, e0, w0⟩ := u8c (240 + o) (by omega)
    obtain ⟨c1, e1, w1⟩ := u8c (128 + t) (by omega)
    obtain ⟨c2, e2, w2⟩ := u8c (128 + s) (by omega)
    obtain ⟨c3, e3, w3⟩ := u8c (128 + r) (by omega)
    rw [e0, e1, e2, e3]
    have x0 : Hid (240 + (o : Int) = (c0.toNat : Int)) := by show _ = _; have := w0; omega
    have x1 : Hid (128 + (t : Int) = (c1.toNat : Int)) := by show _ = _; have := w1; omega
    have x2 : Hid (128 + (s : Int) = (c2.toNat : Int)) := by show _ = _; have := w2; omega
    have x3 : Hid (128 + (r : Int) = (c3.toNat : Int)) := by show _ = _; have := w3; omega
    clear he hV e0 w0 e1 w1 e2 w2 e3 w3 ho hp ht hq hs hr
    have hb := hide ((Below.refl w.heap.size w).alloc (Nat.le_refl _) (.cells #[.int .u8 (c0.toNat : Int), .int .u8 (c1.toNat : Int), .int .u8 (c2.toNat : Int), .int .u8 (c3.toNat : Int)] 5))
    have hr := hide (row_cs w [c0, c1, c2, c3] _ rfl)
    go_enter Tryz.func202, Tryz.ntmps202
    go_wp2
    go_ret
    exact ⟨_, rfl, by rw [uh x0, uh x1, uh x2, uh x3]; exact uh hr, by rw [uh x0, uh x1, uh x2, uh x3]; exact uh hb⟩
end Go.Proofs.YtmpjeahibfdehaaGreatDoor
end
