/-
  THE LIBRARY's bytes.Compare and bytes.HasPrefix, told of lists of bytes.
-/
import Derived.Test.YthkeghbhckamoabByt
import Derived.Lib.Bytealg
import Derived.Lib.BytesEntry
set_option linter.unusedVariables false
namespace Go.Proofs.Ythkeghbhckamoab
open Go.RowKit

theorem Row.take {w : World} {a : Option Addr} {l : List UInt8} (h : Row w a l) (n : Nat) : Row w a (l.take n) := by
  intro hne
  obtain ⟨b, off, rfl, hc⟩ := h (by intro e; subst e; simp at hne)
  refine ⟨b, off, rfl, fun i hi => ?_⟩
  have hi' : i < n ∧ i < l.length := by simp at hi; omega
  rw [hc i hi'.2]
  simp [List.getD, hi'.1]

theorem run_bytesOf (w : World) (a : Option Addr) (n cap : Nat) (l : List UInt8) (hr : Row w a l) (hn : n = l.length) :
    (Extern.Bytes.bytesOf (.slice a n cap)).run Try.prog w = .ok (str l) w := by
  subst hn
  cases a with
  | none =>
    have hl0 : l = [] := by
      apply Classical.byContradiction
      intro hne
      obtain ⟨b, off, hh, _⟩ := hr hne
      cases hh
    subst hl0
    rfl
  | some ad =>
    show (Extern.Bytes.loadBytes ad l.length .empty).run Try.prog w = _
    have := Lib.run_loadBytesX (P := Try.prog) (w := w) (l.map fun c => (c.toNat : Int)) ad .empty (by
      intro j x hx
      have hj : j < l.length := by
        have := (List.getElem?_eq_some_iff.1 hx).1
        simpa using this
      obtain ⟨b, off, hh, hc⟩ := hr (by intro e; subst e; simp at hj)
      obtain rfl := Option.some.inj hh
      rw [addr_add, hc j hj]
      simp [hj] at hx
      simp [hj, hx])
    simp only [List.length_map] at this
    rw [this]
    have e2 : Lib.bytesOf (l.map fun c => (c.toNat : Int)) = l := by
      unfold Lib.bytesOf
      rw [List.map_map]
      have : ((fun n : Int => UInt8.ofNat n.toNat) ∘ fun c : UInt8 => (c.toNat : Int)) = id := by
        funext c
        simp
      rw [this, List.map_id]
    rw [e2]
    have e3 : (⟨ByteArray.empty.data ++ l.toArray⟩ : ByteArray) = str l := by
      unfold str
      congr 1
      simp [ByteArray.empty, ByteArray.emptyWithCapacity]
      rfl
    rw [e3]

set_option maxHeartbeats 1000000 in
theorem compare_any (a1 : Option Addr) (n1 cap1 : Nat) (l1 : List UInt8) (a2 : Option Addr) (n2 cap2 : Nat) (l2 : List UInt8) (w : World) (h1 : Row w a1 l1) (h2 : Row w a2 l2) (e1 : n1 = l1.length) (e2 : n2 = l2.length) :
    Calls Try.prog 19 #[.slice a1 n1 cap1, .slice a2 n2 cap2] w fun e w' => e = .returned (.int .i64 (Lib.compareBytes l1 l2)) ∧ w' = w := by
  have k1 := run_bytesOf w a1 n1 cap1 l1 h1 e1
  have k2 := run_bytesOf w a2 n2 cap2 l2 h2 e2
  have hrun : (Extern.BytealgCompare.compare #[.slice a1 n1 cap1, .slice a2 n2 cap2]).run Try.prog w = .ok (.int .i64 (Lib.compareBytes l1 l2)) w := by
    change Sem.run Try.prog (do pure (goInt (Extern.BytealgCompare.cmp (← Extern.Bytes.bytesOf (.slice a1 n1 cap1)) (← Extern.Bytes.bytesOf (.slice a2 n2 cap2))))) w = _
    simp only [Sem.run_bind, Sem.run_pure, Result.andThen, k1, k2]
    rw [Lib.cmp_eq]
    rfl
  clear e1 e2 k1 k2
  go_enter Try.func19, Try.ntmps19
  go_wp2
  rw [run_callFunc_extern Try.func37 (by kernel_rfl) (by kernel_rfl) (by kernel_rfl) (e := Extern.BytealgCompare.compare) (by kernel_rfl), hrun]
  simp only [Result.andThen]
  rw [Oper.upon_value]
  go_wp2
  go_ret
  exact ⟨rfl, rfl⟩

set_option maxHeartbeats 1000000 in
theorem hasPrefix_any (a1 : Option Addr) (n1 cap1 : Nat) (l1 : List UInt8) (a2 : Option Addr) (n2 cap2 : Nat) (l2 : List UInt8) (w : World) (h1 : Bs w a1 cap1 l1) (h2 : Bs w a2 cap2 l2) (e1 : n1 = l1.length) (e2 : n2 = l2.length) :
    Calls Try.prog 20 #[.slice a1 n1 cap1, .slice a2 n2 cap2] w fun e w' => e = .returned (.bool (l2.isPrefixOf l1)) ∧ w' = w := by
  subst e1 e2
  by_cases h : l2.length ≤ l1.length
  · have hcap : l2.length ≤ cap1 := Nat.le_trans h h1.le
    have hpf : (l1.take l2.length == l2) = l2.isPrefixOf l1 := by
      rw [Bool.eq_iff_iff, List.isPrefixOf_iff_prefix, List.prefix_iff_eq_take, beq_iff_eq]
      exact ⟨fun h => h.symm, fun h => h.symm⟩
    have hlen : l2.length = (l1.take l2.length).length := by simp; omega
    have HL : Hid (l2.length = (l1.take l2.length).length) := hlen
    have HP : Hid ((l1.take l2.length == l2) = l2.isPrefixOf l1) := hpf
    clear hlen hpf
    go_enter Try.func20, Try.ntmps20
    go_wp2_with fail
    refine (equal_any a1 _ cap1 (l1.take l2.length) a2 _ cap2 l2 w (h1.row.take _) h2.row HL.out rfl).mono ?_
    rintro e w' ⟨rfl, rfl⟩
    rw [HP.out]
    go_wp2
    go_ret
    exact ⟨rfl, rfl⟩
  · have hpf : l2.isPrefixOf l1 = false := by
      cases hp : l2.isPrefixOf l1 with
      | false => rfl
      | true => exact absurd (List.isPrefixOf_iff_prefix.1 hp).length_le h
    rw [hpf]
    clear hpf
    go_enter Try.func20, Try.ntmps20
    go_wp2
    go_ret
    exact ⟨rfl, rfl⟩
#print axioms run_bytesOf
end Go.Proofs.Ythkeghbhckamoab
