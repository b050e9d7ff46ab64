/-
  THE WALKS of the reference's right and bytes; the blocks of a digest as plain mathematics.
-/
import Derived.Test.YthliodpihbbjfaaDoorOwnW
import Derived.Test.YthliodpihbbjfaaDoorShaK
import Derived.Test.YthliodpihbbjfaaDoorByt
set_option linter.unusedVariables false
namespace Go.Proofs.YthliodpihbbjfaaDoor
open Go.RowKit

theorem or_swap (x y : UInt32) : x ||| y = y ||| x := UInt32.or_comm x y
set_option maxHeartbeats 400000 in
theorem right_any (x : UInt32) (n : Nat) (w : World) (h1 : 1 ≤ n) (h2 : n ≤ 31) :
    Calls Tryd.prog 97 #[.int .u32 (x.toNat : Int), .int .i64 (n : Int)] w fun e w' => e = .returned (.int .u32 ((rotr x n).toNat : Int)) ∧ ∃ k, w' = w.drewN k := by
  obtain ⟨m, hm⟩ : ∃ m : Nat, m + n = 32 := ⟨32 - n, by omega⟩
  have hs : (32 : Int) - (n : Int) = (m : Int) := by omega
  have HR : Hid (bits .or .u32 ((x.toNat : Int) / 2 ^ n) ((x.toNat : Int) * 2 ^ m % 4294967296) = ((rotr x n).toNat : Int)) := by
    show _ = _
    rw [u_shl x m (by omega), u_shr x n (by omega), u_or, or_swap]
    have e1 : 32 - n = m := by omega
    have e2 : 32 - m = n := by omega
    rw [rotr, rotl, e1, e2]
  have hm2 : m ≤ 31 := by omega
  clear hm
  go_enter Tryd.func97, Tryd.ntmps97
  go_wp2
  go_quiet (fail)
  go_wp2
  go_ret
  exact ⟨ret_int HR.out, nq, rfl⟩

theorem by4_row (w : World) (x : UInt32) : Row (w.alloc (.cells #[.int .u8 ((UInt8.ofNat (x.toNat / 16777216)).toNat : Int), .int .u8 ((UInt8.ofNat (x.toNat / 65536)).toNat : Int), .int .u8 ((UInt8.ofNat (x.toNat / 256)).toNat : Int), .int .u8 ((UInt8.ofNat x.toNat).toNat : Int)] 5)) (some ⟨w.heap.size, 0, none⟩) (by4 x) := by
  intro _
  refine ⟨w.heap.size, 0, rfl, fun i hi => ?_⟩
  have hi' : i < 4 := hi
  rw [Nat.zero_add, cell_of_row _ w.heap.size i _ _ _ (heap_alloc_new w _)]
  match i, hi' with
  | 0, _ => rfl
  | 1, _ => rfl
  | 2, _ => rfl
  | 3, _ => rfl

set_option maxHeartbeats 1000000 in
theorem rbytes_any (a : Option Addr) (cap : Nat) (l : List UInt32) (base : Nat) (w : World) (ho : OwnW w base a cap l) (hl : l.length ≤ 100) :
    Calls Tryd.prog 98 #[.slice a l.length cap] w fun e w' => ∃ a' cap' r, e = .returned (.slice a' r.length cap') ∧ Hid (r = byts l) ∧ OwnB w' w.heap.size a' cap' r ∧ Below w.heap.size w w' := by
  go_enter Tryd.func98, Tryd.ntmps98
  go_wp2
  go_loopw [3, 8] (fun v i wr => ∃ (k : Nat) (a' : Option Addr) (cap' : Nat) (r : List UInt8), k ≤ l.length ∧ i = .int .i64 (k : Int) ∧ v = .slice a' r.length cap' ∧ Hid (r = byts (l.take k)) ∧ OwnB wr w.heap.size a' cap' r ∧ Below w.heap.size w wr) (fun _ i _ => l.length - (intOf i).toNat)
  case atStart => exact ⟨0, none, 0, [], Nat.zero_le _, rfl, rfl, rfl, OwnB.nil _ _, Below.refl _ _⟩
  case round =>
    obtain ⟨k, a', cap', r, hk, rfl, rfl, hr, ho', hb⟩ := hrel
    have hrl : r.length ≤ 400 := by rw [hr.out, byts_length, List.length_take]; omega
    by_cases hlt : k < l.length
    · obtain ⟨g, rfl, _, hg, _, hc⟩ := ho.some (by omega)
      have ck := hc k hlt
      rw [← hb.cell hg] at ck
      have hlt2 : (k : Int) < (l.length : Int) := by omega
      have HS : Hid (byts (l.take k) ++ by4 (l.getD k 0) = byts (l.take (k + 1))) := by
        show _ = _
        have e : l.take (k + 1) = l.take k ++ [l.getD k 0] := by rw [List.take_add_one]; simp [hlt]
        rw [e]
        simp only [byts, List.flatMap_append, List.flatMap_cons, List.flatMap_nil, List.append_nil]
      generalize l.getD k 0 = x at *
      have hsz := hb.size
      have hx := x.toNat_lt
      have q0 : (x.toNat : Int) / 16777216 = ((UInt8.ofNat (x.toNat / 16777216)).toNat : Int) := by simp; omega
      have q1 : (x.toNat : Int) / 65536 % 256 = ((UInt8.ofNat (x.toNat / 65536)).toNat : Int) := by simp
      have q2 : (x.toNat : Int) / 256 % 256 = ((UInt8.ofNat (x.toNat / 256)).toNat : Int) := by simp
      have q3 : (x.toNat : Int) % 256 = ((UInt8.ofNat x.toNat).toNat : Int) := by simp
      have hrow := by4_row wr x
      rw [← q0, ← q1, ← q2, ← q3] at hrow
      have HRW := hide hrow
      clear hrow q0 q1 q2 q3 hc
      go_wp2_with (at_builtin; refine wp_app _ rfl _ _ rfl w.heap.size a' cap' r rfl (ho'.alloc _) (some ⟨wr.heap.size, 0, none⟩) 4 (by4 x) 4 rfl rfl HRW.out (fun h => by cases h) ?c1 ?c2 ?_)
      case c1 => show r.length + 4 ≤ _; omega
      case c2 => first | omega | (simp; omega)
      intro a2 cap2 r2 w2 hr2 ho2 hg2
      have hb2 : Below w.heap.size w w2 := below_grown (hb.alloc hb.size _) hg2 (Nat.le_refl _) (fun k hk => (ho'.lt k hk).1)
      have HR : Hid (r2 = byts (l.take (k + 1))) := by show _ = _; rw [hr2.out, hr.out]; exact HS.out
      clear hr2 hg2 HRW
      go_wp2
      go_roundw
      case rel => exact ⟨k + 1, a2, cap2, r2, by omega, by go_num, rfl, HR, ho2, hb2⟩
      case measure => simp [intOf]; omega
    · obtain rfl : k = l.length := by omega
      rw [List.take_length] at hr
      go_wp2
      go_ret
      exact ⟨a', cap', r, rfl, hr, ho', hb⟩

/-! The blocks -/
theorem blks_flat : ∀ (m : Nat) (n : Nat) (b : List UInt8), b.length ≤ m → (blks n b).flatten = b ++ 128 :: (noughts ((119 - b.length % 64) % 64) ++ cnt8 n)
  | m, n, b, hm => by
    by_cases h : 64 ≤ b.length
    · match m with
      | 0 => omega
      | m + 1 =>
        rw [blks_go n b h, List.flatten_cons, blks_flat m n (b.drop 64) (by simp; omega), ← List.append_assoc, List.take_append_drop]
        have : (b.drop 64).length % 64 = b.length % 64 := by simp; omega
        rw [this]
    · rw [blks_end n b (by omega)]
      unfold ends
      by_cases h56 : 56 ≤ b.length
      · rw [if_pos h56]
        simp only [List.flatten_cons, List.flatten_nil, List.append_nil, List.append_assoc, List.cons_append]
        congr 2
        rw [← List.append_assoc]
        congr 1
        unfold noughts
        rw [List.replicate_append_replicate]
        congr 1
        omega
      · rw [if_neg h56]
        simp only [List.flatten_cons, List.flatten_nil, List.append_nil]
        congr 4
        omega
theorem blks_each : ∀ (m : Nat) (n : Nat) (b : List UInt8), b.length ≤ m → ∀ x ∈ blks n b, x.length = 64
  | m, n, b, hm => by
    by_cases h : 64 ≤ b.length
    · match m with
      | 0 => omega
      | m + 1 =>
        rw [blks_go n b h]
        intro x hx
        rcases List.mem_cons.1 hx with rfl | hx
        · simp; omega
        · exact blks_each m n (b.drop 64) (by simp; omega) x hx
    · rw [blks_end n b (by omega)]
      unfold ends
      by_cases h56 : 56 ≤ b.length
      · rw [if_pos h56]
        intro x hx
        simp only [List.mem_cons, List.not_mem_nil, or_false] at hx
        rcases hx with rfl | rfl
        · simp [noughts]; omega
        · simp [noughts, cnt8]
      · rw [if_neg h56]
        intro x hx
        simp only [List.mem_cons, List.not_mem_nil, or_false] at hx
        subst hx
        simp [noughts, cnt8]; omega
/-- The j-th block of bytes. -/
theorem flat_block : ∀ (L : List (List UInt8)), (∀ x ∈ L, x.length = 64) → ∀ (j : Nat) (hj : j < L.length), (L.flatten.drop (64 * j)).take 64 = L[j]
  | x :: L, h, 0, hj => by
    have := h x (by simp)
    simp only [Nat.mul_zero, List.drop_zero, List.flatten_cons, List.getElem_cons_zero]
    rw [List.take_append_of_le_length (by omega), List.take_of_length_le (by omega)]
  | x :: L, h, j + 1, hj => by
    have hx := h x (by simp)
    have := flat_block L (fun y hy => h y (by simp [hy])) j (by simpa using hj)
    simp only [List.flatten_cons, List.getElem_cons_succ]
    rw [show 64 * (j + 1) = x.length + 64 * j by omega, List.drop_append, List.drop_eq_nil_of_le (by omega), Nat.add_sub_cancel_left, List.nil_append]
    exact this
theorem flat_length : ∀ (L : List (List UInt8)), (∀ x ∈ L, x.length = 64) → L.flatten.length = 64 * L.length
  | [], _ => rfl
  | x :: L, h => by
    have := h x (by simp)
    rw [List.flatten_cons, List.length_append, flat_length L (fun y hy => h y (by simp [hy])), this, List.length_cons]
    omega
/-- The first k words of a block. -/
def wrd (m : List UInt8) (k : Nat) : List UInt32 := (List.range k).map (wd m)
theorem wrd_length (m : List UInt8) (k : Nat) : (wrd m k).length = k := by simp [wrd]
theorem wrd_succ (m : List UInt8) (k : Nat) : wrd m (k + 1) = wrd m k ++ [wd m k] := by simp [wrd, List.range_succ]
theorem wrd_sch1 (m : List UInt8) : ∀ k, k ≤ 16 → sch1 m k = wrd m k
  | 0, _ => rfl
  | k + 1, h => by rw [sch1, wrd_sch1 m k (by omega), wrd_succ, nxt1, if_pos (by omega)]
theorem wrd_sch2 (m : List UInt8) : ∀ k, k ≤ 16 → sch2 m k = wrd m k
  | 0, _ => rfl
  | k + 1, h => by rw [sch2, wrd_sch2 m k (by omega), wrd_succ, nxt2, if_pos (by omega)]
#print axioms right_any
#print axioms rbytes_any
#print axioms flat_block
end Go.Proofs.YthliodpihbbjfaaDoor
