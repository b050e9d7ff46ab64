/-
  wsock, the reference's known; what the two say of a frame's first bytes is one.
-/
import Derived.Test.YtiiafkjdeoabaaaDoorWskH
set_option linter.unusedVariables false
set_option maxRecDepth 1000000
namespace Go.Proofs.YtiiafkjdeoabaaaDoor
open Go.RowKit

def knB (op : Nat) : Bool := decide (op ≤ 2) || (decide (8 ≤ op) && decide (op ≤ 10))
theorem may_kn (op : Nat) (fin : Bool) (h : op < 16) : mayB (op : Int) fin 0 = (knB op && !(decide (8 ≤ op) && !fin)) := by
  have : ∀ (k : Fin 16) (f : Bool), mayB ((k.val : Nat) : Int) f 0 = (knB k.val && !(decide (8 ≤ k.val) && !f)) := by decide
  exact this ⟨op, h⟩ fin
theorem may_sz (op : Nat) (fin : Bool) (s : Int) (h : op < 16) (h0 : mayB (op : Int) fin 0 = true) : mayB (op : Int) fin s = !(decide (8 ≤ op) && decide (125 < s)) := by
  have hc : isCtl (op : Int) = true → 8 ≤ op := by
    intro h; simp only [isCtl, Bool.or_eq_true, beq_iff_eq] at h; omega
  have hc2 : isCtl (op : Int) = false → isMsg (op : Int) = true → op ≤ 2 := by
    intro _ h; simp only [isMsg, Bool.or_eq_true, beq_iff_eq] at h; omega
  unfold mayB at h0 ⊢
  cases hb : isCtl (op : Int)
  · rw [hb] at h0
    simp only [Bool.false_eq_true, if_false] at h0 ⊢
    have := hc2 hb h0
    rw [h0, decide_eq_false (by omega : ¬ 8 ≤ op)]; rfl
  · rw [hb] at h0
    simp only [if_true, Bool.and_eq_true] at h0 ⊢
    rw [decide_eq_true (hc hb), h0.1]
    by_cases hs : s ≤ 125
    · rw [decide_eq_true hs, decide_eq_false (by omega)]; rfl
    · rw [decide_eq_false hs, decide_eq_true (by omega)]; rfl

set_option maxHeartbeats 1000000 in
theorem known_any (op : Nat) (w : World) :
    Calls Tryd.prog 15 #[.int .i64 (op : Int)] w fun e w' => e = .returned (.bool (knB op)) ∧ w' = w := by
  have h0 : decide ((0 : Int) ≤ (op : Int)) = true := decide_eq_true (by omega)
  by_cases h2 : op ≤ 2
  · have h2' : decide ((op : Int) ≤ 2) = true := decide_eq_true (by omega)
    have HK : Hid (knB op = true) := by show _ = _; unfold knB; rw [decide_eq_true h2]; rfl
    clear h2
    go_enter Tryd.func15, Tryd.ntmps15
    go_wp2
    go_ret
    exact ⟨by rw [unhide HK]; rfl, rfl⟩
  · have h2' : decide ((op : Int) ≤ 2) = false := decide_eq_false (by omega)
    by_cases h8 : 8 ≤ op
    · have h8' : decide ((8 : Int) ≤ (op : Int)) = true := decide_eq_true (by omega)
      by_cases h10 : op ≤ 10
      · have h10' : decide ((op : Int) ≤ 10) = true := decide_eq_true (by omega)
        have HK : Hid (knB op = true) := by show _ = _; unfold knB; rw [decide_eq_false h2, decide_eq_true h8, decide_eq_true h10]; rfl
        clear h2 h8 h10
        go_enter Tryd.func15, Tryd.ntmps15
        go_wp2
        go_ret
        exact ⟨by rw [unhide HK]; rfl, rfl⟩
      · have h10' : decide ((op : Int) ≤ 10) = false := decide_eq_false (by omega)
        have HK : Hid (knB op = false) := by show _ = _; unfold knB; rw [decide_eq_false h2, decide_eq_true h8, decide_eq_false h10]; rfl
        clear h2 h8 h10
        go_enter Tryd.func15, Tryd.ntmps15
        go_wp2
        go_ret
        exact ⟨by rw [unhide HK]; rfl, rfl⟩
    · have h8' : decide ((8 : Int) ≤ (op : Int)) = false := decide_eq_false (by omega)
      have HK : Hid (knB op = false) := by show _ = _; unfold knB; rw [decide_eq_false h2, decide_eq_false h8]; rfl
      clear h2 h8
      go_enter Tryd.func15, Tryd.ntmps15
      go_wp2
      go_ret
      exact ⟨by rw [unhide HK]; rfl, rfl⟩
#print axioms known_any

/-! ### Sizes -/
theorem sz_short (B : List UInt8) (s : Nat) (h2 : 2 ≤ B.length) (hs : s = (B.getD 1 0).toNat % 128) (h : s ≤ 125) : szY B = 0 ∧ szA B = 2 ∧ szS B = s := by
  have hat : szAt s = 2 := by unfold szAt; rw [if_neg (by omega), if_neg (by omega)]
  have hls : szLe s = 0 := by unfold szLe; rw [if_neg (by omega), if_neg (by omega)]
  have hN : szN B = s := by unfold szN; rw [← hs]; simp only [hat]; rfl
  have hY : szY B = 0 := by unfold szY; rw [← hs, hN]; simp only [hat, hls]; rw [if_neg (by omega), if_neg (by omega), if_neg (by omega)]
  refine ⟨hY, ?_, ?_⟩
  · unfold szA; rw [hY, ← hs, hat]; rfl
  · unfold szS; rw [hY, hN]; rfl
theorem sz_cut (B : List UInt8) (M : Nat) (hs : szAt ((B.getD 1 0).toNat % 128) = M) (h : B.length < M) : szY B = 1 := by
  unfold szY
  simp only [hs]
  rw [if_pos h]
theorem sz_long (B : List UInt8) (M least : Nat) (hs : szAt ((B.getD 1 0).toNat % 128) = M) (hl : szLe ((B.getD 1 0).toNat % 128) = least) (hM : M ≠ 2) (h : ¬ B.length < M) : szY B = numY (fh ((B.take M).drop 2)) least ∧ (szY B = 0 → szA B = M ∧ szS B = fh ((B.take M).drop 2)) := by
  have hN : szN B = fh ((B.take M).drop 2) := by unfold szN; simp only [hs]; rw [if_neg hM]
  have hY : szY B = numY (fh ((B.take M).drop 2)) least := by unfold szY numY; simp only [hs, hl]; rw [if_neg h, hN]
  refine ⟨hY, fun h0 => ⟨?_, ?_⟩⟩
  · unfold szA; rw [h0, hs]; rfl
  · unfold szS; rw [h0, hN]; rfl
theorem fh_step (B : List UInt8) (M k : Nat) (hM : M ≤ B.length) (hk : k + 2 < M) : fh (((B.take M).drop 2).take (k + 1)) = fh (((B.take M).drop 2).take k) * 256 + (B.getD (2 + k) 0).toNat := by
  have hl : ((B.take M).drop 2).length = M - 2 := by simp; omega
  rw [fh_take _ k (by omega)]
  congr 2
  simp only [List.getElem_drop, List.getElem_take]
  rw [List.getD_eq_getElem?_getD, List.getElem?_eq_getElem (by omega)]
  rfl
theorem fh_ge' : ∀ (l : List UInt8) (a : Nat), a * 256 ^ l.length ≤ l.foldl (fun a c => a * 256 + c.toNat) a
  | [], a => by simp
  | c :: r, a => by
    have ih := fh_ge' r (a * 256 + c.toNat)
    rw [List.length_cons, Nat.pow_succ, List.foldl_cons]
    refine Nat.le_trans ?_ ih
    have h2 : a * (256 ^ r.length * 256) = (a * 256) * 256 ^ r.length := by rw [Nat.mul_comm (256 ^ r.length) 256, Nat.mul_assoc]
    rw [h2]
    exact Nat.mul_le_mul_right _ (by omega)
theorem fh_low (l : List UInt8) (h : (l.getD 0 0).toNat < 128) (hl : l.length ≤ 7) : fh l < 36028797018963968 := by
  match l, h, hl with
  | [], _, _ => simp [fh]
  | c :: r, h, hl =>
    have h1 := fh_lt' r c.toNat
    have e : fh (c :: r) = r.foldl (fun a c => a * 256 + c.toNat) c.toNat := by simp [fh]
    rw [e]
    have h0 : c.toNat < 128 := by simpa using h
    have hc : c.toNat + 1 ≤ 128 := by omega
    have hr : r.length ≤ 6 := by simp at hl; omega
    have h2 : 256 ^ r.length ≤ 256 ^ 6 := Nat.pow_le_pow_right (by decide) hr
    have h3 : (c.toNat + 1) * 256 ^ r.length ≤ 128 * 256 ^ 6 := Nat.mul_le_mul hc h2
    have h4 : 128 * 256 ^ 6 = 36028797018963968 := by decide
    omega
theorem fh_low8 (l : List UInt8) (h : (l.getD 0 0).toNat < 128) (hl : l.length = 8) : fh l < 9223372036854775808 := by
  match l, h, hl with
  | c :: r, h, hl =>
    have h1 := fh_lt' r c.toNat
    have e : fh (c :: r) = r.foldl (fun a c => a * 256 + c.toNat) c.toNat := by simp [fh]
    rw [e]
    have h0 : c.toNat < 128 := by simpa using h
    have hc : c.toNat + 1 ≤ 128 := by omega
    have hr : r.length = 7 := by simpa using hl
    rw [hr] at h1
    have h4 : (256 : Nat) ^ 7 = 72057594037927936 := by decide
    rw [h4] at h1
    omega
theorem fh_high8 (l : List UInt8) (h : 128 ≤ (l.getD 0 0).toNat) (hl : l.length = 8) : 9223372036854775808 ≤ fh l := by
  match l, h, hl with
  | c :: r, h, hl =>
    have h1 := fh_ge' r c.toNat
    have e : fh (c :: r) = r.foldl (fun a c => a * 256 + c.toNat) c.toNat := by simp [fh]
    rw [e]
    have hc : 128 ≤ c.toNat := by simpa using h
    have hr : r.length = 7 := by simpa using hl
    rw [hr] at h1
    have h4 : (256 : Nat) ^ 7 = 72057594037927936 := by decide
    rw [h4] at h1
    omega
end Go.Proofs.YtiiafkjdeoabaaaDoor
