/-
  slices.Repeat of one true: bits.Mul of one.
-/
import Derived.Test.YtkhpjlgbiicdcaaDnS
import Derived.Laws.CopyOwn
set_option linter.unusedVariables false
namespace Go.Proofs.Ytkhpjlgbiicdcaa
open Go.RowKit Go.Maps

theorem and32 (n : Nat) (h : n ≤ 2000) : bits .and .u64 (n : Int) 4294967295 = (n : Int) := by
  have e : (n &&& 4294967295) = n := by
    have := Nat.and_two_pow_sub_one_eq_mod n 32
    rw [show 2 ^ 32 - 1 = 4294967295 from rfl] at this
    rw [this]
    exact Nat.mod_eq_of_lt (by omega)
  have e2 : (BitVec.ofNat 64 n &&& 4294967295#64).toNat = n := by
    rw [BitVec.toNat_and, BitVec.toNat_ofNat, Nat.mod_eq_of_lt (by omega)]
    exact e
  simp [bits, IntKind.wrap, IntKind.bits, IntKind.signed]
  show (((BitVec.ofNat 64 n &&& 4294967295#64).toNat : Nat) : Int) % 18446744073709551616 = _
  rw [e2]
  omega
set_option maxRecDepth 20000 in
set_option maxHeartbeats 1000000 in
theorem mul64_one (n : Nat) (w : World) (hn : n ≤ 2000) : Calls Try.prog 53 #[.int .u64 1, .int .u64 (n : Int)] w fun e w' => e = .returned (.tuple #[.int .u64 0, .int .u64 (n : Int)]) ∧ w' = w := by
  have a1 : bits .and .u64 1 4294967295 = 1 := and32 1 (by omega)
  have a0 : bits .and .u64 0 4294967295 = 0 := and32 0 (by omega)
  have a2 := and32 n hn
  have a3 : (n : Int) / 4294967296 = 0 := by omega
  go_enter Try.func53, Try.ntmps53
  go_wp2
  go_ret2
  exact ⟨rfl, rfl⟩
theorem mul_one (n : Nat) (w : World) (hn : n ≤ 2000) : Calls Try.prog 40 #[.int .u64 1, .int .u64 (n : Int)] w fun e w' => e = .returned (.tuple #[.int .u64 0, .int .u64 (n : Int)]) ∧ w' = w := by
  go_enter Try.func40, Try.ntmps40
  go_wp2_with fail
  refine (mul64_one n _ hn).mono ?_
  rintro e w' ⟨rfl, rfl⟩
  go_wp2
  go_ret2
  exact ⟨rfl, rfl⟩
#print axioms mul_one

theorem Try.infoT : (Try.prog.info? 4).map (fun i => (i.zero, i.size, i.bytes)) = some (some (.bool false), 1, 1) := by kernel_rfl
/-- The first k of n cells are true. -/
def Fil (n : Nat) (cur : List Value) (k : Nat) : Prop := cur.length = n ∧ ∀ j, j < k → cur[j]? = some (.bool true)
theorem fil_splice {n k m : Nat} {cur : List Value} (h : Fil n cur k) (hk : k + m ≤ n) : Fil n (splice cur k (List.replicate m (.bool true))) (k + m) := by
  obtain ⟨h1, h2⟩ := h
  constructor
  · simp [splice]; omega
  · intro j hj
    unfold splice
    by_cases hjk : j < k
    · rw [List.getElem?_append_left (by simp; omega), List.getElem?_take, if_pos hjk]
      exact h2 j hjk
    · rw [List.getElem?_append_right (by simp; omega), List.getElem?_append_left (by simp; omega), List.getElem?_replicate, if_pos (by simp; omega)]
theorem Try.elemT : Try.prog.underlying 34 = some (.slice (Try.prog.elem 34)) := by kernel_rfl
theorem Try.sizeT (w : World) : (sizeOf (Try.prog.elem 34)).run Try.prog w = .ok 1 w := by kernel_rfl
theorem bools_from (G n E : Nat) (w : World) (h1 : E < n) :
    (Instr.slice 34 (.slice (some ⟨G, 0, none⟩) n n) (some (.int .i64 (E : Int))) none none).run Try.prog w = .ok (.slice (some ⟨G, E, none⟩) (n - E) (n - E)) w := by
  rw [run_slice_l (P := Try.prog) w 34 _ n n Try.elemT .i64 (E : Int) (by omega) (by omega), Try.sizeT]
  simp only [Result.andThen, sliced, Int.toNat_natCast]
  rw [if_neg (by omega), Option.map_some, addr_add, Nat.zero_add, Nat.mul_one]
theorem bools_to (G n H : Nat) (w : World) (h1 : H ≤ n) :
    (Instr.slice 34 (.slice (some ⟨G, 0, none⟩) n n) none (some (.int .i64 (H : Int))) none).run Try.prog w = .ok (.slice (some ⟨G, 0, none⟩) H n) w := by
  rw [run_slice_h (P := Try.prog) w 34 _ n n Try.elemT .i64 (H : Int) (by omega) (by omega), Try.sizeT]
  simp only [Result.andThen, sliced, Int.toNat_natCast, Nat.sub_zero, Option.map_some, Nat.zero_mul, addr_add, Nat.add_zero, ite_self]
theorem made_row {w w1 : World} {V n : Nat} {xs : List Value} (hV : w.cell? ⟨V, 0, none⟩ = some (.bool true)) (ho1 : w1.ownsRow w.heap.size 4 1 (.slice (some ⟨w.heap.size, 0, none⟩) n n) n xs) (gr1 : w.grownBy w1 none) :
    ∃ cur : List Value, w1.heap[w.heap.size]? = some (.cells cur.toArray 4 (0, 0)) ∧ cur.length = n ∧ Below w.heap.size w w1 ∧ w1.cell? ⟨V, 0, none⟩ = some (.bool true) := by
  have b1 : Below w.heap.size w w1 := below_grown (a := none) (Below.refl _ _) gr1 (Nat.le_refl _) (fun k hk => by cases hk)
  rcases ho1.2 with ⟨hv, _⟩ | ⟨g, cap, cur, hv, hbb, hg, hle, hm, hs, ht⟩
  · simp at hv
  · simp only [Value.slice.injEq, Option.some.injEq, Addr.mk.injEq, true_and, and_true] at hv
    obtain ⟨rfl, rfl⟩ := hv
    exact ⟨cur.toList, by simpa using hg, by simpa using hs, b1, by rw [b1.cell (World.block_lt_of_cell? _ _ hV)]; exact hV⟩
theorem src_one {w : World} {V k0 : Nat} (h : w.cell? ⟨V, 0, none⟩ = some (.bool true)) (hk : k0 ≤ 1) : ∀ j v, (List.replicate k0 (Value.bool true))[j]? = some v → w.cell? ((⟨V, 0, none⟩ : Addr).add j) = some v := by
  intro j v hv
  rw [List.getElem?_replicate] at hv
  split at hv
  · rename_i hj
    obtain rfl : j = 0 := by omega
    rw [← Option.some.inj hv, addr_add]
    exact h
  · cases hv
end Go.Proofs.Ytkhpjlgbiicdcaa
