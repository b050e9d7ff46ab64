/-
  disk: torn, kept.
-/
import Derived.Test.YtkhpjlgbiicdcaaDskJ
set_option linter.unusedVariables false
namespace Go.Proofs.Ytkhpjlgbiicdcaa
open Go.RowKit Go.Maps

def Ac.torn (a : Ac) (z : Int) : Ac := if a.k = 0 then { a with b := a.b.take (a.b.length - min z.toNat a.b.length) } else a

set_option maxRecDepth 20000 in
set_option maxHeartbeats 1000000 in
theorem torn_any (a : Ac) (K : Int) (p z : Int) (x : Option Addr) (c : Nat) (w : World) (HK : Hid (K = (a.k : Int))) (hb : Bs w x c a.b) (hbl : a.b.length ≤ 1000000000) :
    Calls Try.prog 51 #[.agg #[.int .i64 K, .string (str a.n), .int .i64 p, .slice x a.b.length c], .int .i64 z] w fun e w' => ∃ y, e = .returned (.agg #[.int .i64 K, .string (str a.n), .int .i64 p, .slice y (a.torn z).b.length c]) ∧ (∀ W, Bs W x c a.b → Bs W y c (a.torn z).b) ∧ blk y = blk x ∧ Below w.heap.size w w' := by
  have hB : ∀ o1 o2, Below w.heap.size w ((w.alloc o1).alloc o2) := fun o1 o2 => ((Below.refl _ _).alloc (Nat.le_refl _) _).alloc (by simp) _
  by_cases h0 : a.k = 0
  · obtain rfl : K = 0 := by rw [unhide HK, h0]; rfl
    obtain ⟨T, hT⟩ : ∃ T, T = min z.toNat a.b.length := ⟨_, rfl⟩
    have hTl : T ≤ a.b.length := by omega
    have HE : Hid (a.torn z = { a with b := a.b.take (a.b.length - T) }) := by show _ = _; unfold Ac.torn; rw [if_pos h0, hT]
    obtain ⟨y, hcut, hBy, hblk⟩ := cut_head x a.b.length c (a.b.length - T) a.b (by omega) hb.le (fun h => by obtain ⟨b, off, e, _⟩ := hb.row h; exact ⟨b, off, e⟩)
    have hlen : (a.b.take (a.b.length - T)).length = a.b.length - T := by simp
    obtain ⟨Z0, hZ0⟩ : ∃ Z0, Z0 = (if z < 0 then 0 else z) := ⟨_, rfl⟩
    have hZ1 : Z0 = max z 0 := by rw [hZ0]; split <;> omega
    have hif : (if (a.b.length : Int) < Z0 then (a.b.length : Int) else Z0) = (T : Int) := by rw [hT, hZ1]; split <;> omega
    have hmx := hZ0.symm
    have hz0 : 0 ≤ Z0 := by omega
    have hTi : (T : Int) ≤ (a.b.length : Int) := by omega
    clear hZ0 hZ1
    have hcut' := fun W => hcut W
    have hcast : (((a.b.length - T : Nat) : Int)) = (a.b.length : Int) - (T : Int) := by omega
    rw [hcast] at hcut'
    have HT := hide hT
    have HL := hide hlen
    clear hT hcut hlen hcast h0
    go_enter Try.func51, Try.ntmps51
    go_wp2
    refine bodyPost_ret (v := .agg #[.int .i64 0, .string (str a.n), .int .i64 p, .slice y (a.b.length - T) c]) (by simp [results, Try.results51, go_sem]) rfl ⟨y, ?_, fun W hW => ?_, hblk, hB _ _⟩
    · rw [unhide HE]
      show _ = Ending.returned (.agg #[.int .i64 0, .string (str a.n), .int .i64 p, .slice y (a.b.take (a.b.length - T)).length c])
      rw [unhide HL]
    · rw [unhide HE]; exact hBy W hW
  · have hK0 : (K == 0) = false := by
      have := unhide HK
      simp only [beq_eq_false_iff_ne, ne_eq]
      omega
    have HE : Hid (a.torn z = a) := by show _ = _; unfold Ac.torn; rw [if_neg h0]
    clear h0
    go_enter Try.func51, Try.ntmps51
    go_wp2
    refine bodyPost_ret (v := .agg #[.int .i64 K, .string (str a.n), .int .i64 p, .slice x a.b.length c]) (by simp [results, Try.results51, go_sem]) rfl ⟨x, ?_, fun W hW => ?_, rfl, hB _ _⟩
    · rw [unhide HE]
    · rw [unhide HE]; exact hW

/-! ### a row of bools that is read -/
def BRow (w : World) (a : Option Addr) (l : List Bool) : Prop :=
  l ≠ [] → ∃ b off, a = some ⟨b, off, none⟩ ∧ ∀ i, i < l.length → w.cell? ⟨b, off + i, none⟩ = some (.bool (l.getD i false))
theorem BRow.below {w w' : World} {B : Nat} {a : Option Addr} {l : List Bool} (h : BRow w a l) (hb : Below B w w') (hB : w.heap.size ≤ B) : BRow w' a l := by
  intro hne
  obtain ⟨b, off, rfl, hc⟩ := h hne
  refine ⟨b, off, rfl, fun i hi => ?_⟩
  have := hc i hi
  have hlt := World.block_lt_of_cell? w _ this
  simp only at hlt
  rw [hb.cell (by simp only; omega)]
  exact this
/-- The acts that are kept. -/
def keptL {α : Type} : List α → List Bool → List α
  | [], _ => []
  | a :: r, k => (if k.headD false then [a] else []) ++ keptL r k.tail
theorem keptL_snoc {α : Type} : ∀ (l : List α) (a : α) (k : List Bool), keptL (l ++ [a]) k = keptL l k ++ (if k.getD l.length false then [a] else [])
  | [], a, k => by cases k <;> simp [keptL]
  | b :: r, a, k => by
    show (if k.headD false then [b] else []) ++ keptL (r ++ [a]) k.tail = _
    rw [keptL_snoc r a k.tail]
    cases k <;> simp [keptL]
theorem keptL_map {α β : Type} (f : α → β) : ∀ (l : List α) (k : List Bool), keptL (l.map f) k = (keptL l k).map f
  | [], _ => rfl
  | a :: r, k => by
    show (if k.headD false then [f a] else []) ++ keptL (r.map f) k.tail = _
    rw [keptL_map f r k.tail]
    show _ = ((if k.headD false then [a] else []) ++ keptL r k.tail).map f
    cases k.headD false <;> simp
theorem keptL_mem {α : Type} : ∀ (l : List α) (k : List Bool) (x : α), x ∈ keptL l k → x ∈ l
  | [], _, x, h => h
  | a :: r, k, x, h => by
    rcases List.mem_append.1 h with h' | h'
    · cases hk : k.headD false
      · rw [hk] at h'; simp at h'
      · rw [hk] at h'; simp at h'; simp [h']
    · exact List.mem_cons_of_mem _ (keptL_mem r k.tail x h')
theorem keptL_len {α : Type} : ∀ (l : List α) (k : List Bool), (keptL l k).length ≤ l.length
  | [], _ => Nat.le_refl _
  | a :: r, k => by
    have := keptL_len r k.tail
    show ((if k.headD false then [a] else []) ++ keptL r k.tail).length ≤ _
    cases k.headD false <;> simp <;> omega
/-- .. the last of them torn. -/
def tornLast (l : List Ac) (z : Int) : List Ac := l.dropLast ++ (l.getLast?.map (·.torn z)).toList
theorem tornLast_snoc (l : List Ac) (a : Ac) (z : Int) : tornLast (l ++ [a]) z = l ++ [a.torn z] := by simp [tornLast]
theorem tornLast_nil (z : Int) : tornLast [] z = [] := rfl

theorem list_set4 {α : Type} (L : List α) (m : Nat) (v0 v1 v2 v3 : α) (h : m + 4 ≤ L.length) (A : List α) (hA : L.take m = A) :
    ((((L.set m v0).set (m + 1) v1).set (m + 2) v2).set (m + 3) v3).take (m + 4) = A ++ [v0, v1, v2, v3] := by
  apply List.ext_getElem?
  intro j
  have hAl : A.length = m := by rw [← hA]; simp; omega
  by_cases hj : j < m + 4
  · rw [List.getElem?_take, if_pos hj]
    by_cases hm : j < m
    · rw [List.getElem?_append_left (by omega), ← hA, List.getElem?_take, if_pos hm]
      rw [List.getElem?_set_ne (by omega), List.getElem?_set_ne (by omega), List.getElem?_set_ne (by omega), List.getElem?_set_ne (by omega)]
    · rw [List.getElem?_append_right (by omega), hAl]
      rcases (by omega : j = m ∨ j = m + 1 ∨ j = m + 2 ∨ j = m + 3) with rfl | rfl | rfl | rfl
      · rw [List.getElem?_set_ne (by omega), List.getElem?_set_ne (by omega), List.getElem?_set_ne (by omega), List.getElem?_set_self (by omega)]; simp
      · rw [List.getElem?_set_ne (by omega), List.getElem?_set_ne (by omega), List.getElem?_set_self (by simp; omega)]; simp
      · rw [List.getElem?_set_ne (by omega), List.getElem?_set_self (by simp; omega)]; simp
      · rw [List.getElem?_set_self (by simp; omega)]; simp
  · rw [List.getElem?_take, if_neg hj, List.getElem?_eq_none (by simp; omega)]
/-- The last act of a row is written anew. -/
theorem OwnA.setLast {w : World} {G cap : Nat} {l : List At} {t : At} (h : OwnA w (some ⟨G, 0, none⟩) cap (l ++ [t])) (u : At) :
    OwnA ((((w.setCell ⟨G, l.length * 4, none⟩ (.int .i64 (u.1.k : Int))).setCell ⟨G, l.length * 4 + 1, none⟩ (.string (str u.1.n))).setCell ⟨G, l.length * 4 + 2, none⟩ (.int .i64 (u.1.p : Int))).setCell ⟨G, l.length * 4 + 3, none⟩ (.slice u.2.1 u.1.b.length u.2.2)) (some ⟨G, 0, none⟩) cap (l ++ [u]) := by
  rcases h.cases with ⟨e, _⟩ | ⟨g, cur, e, hg, hle, hm, hs, ht⟩
  · cases e
  · obtain rfl : G = g := by simpa using e
    have hlen : (l ++ [t]).length = l.length + 1 := by simp
    have hlen' : (l ++ [u]).length = l.length + 1 := by simp
    rw [hlen] at hle ht
    refine ⟨acs_length _, .inr ⟨G, cap, (((cur.set! (l.length * 4) (.int .i64 (u.1.k : Int))).set! (l.length * 4 + 1) (.string (str u.1.n))).set! (l.length * 4 + 2) (.int .i64 (u.1.p : Int))).set! (l.length * 4 + 3) (.slice u.2.1 u.1.b.length u.2.2), rfl, Nat.zero_le _, ?_, by rw [hlen']; exact hle, hm, by simpa using hs, ?_⟩⟩
    · simp only [World.setCell, Array.getElem?_modify]
      rw [if_pos trivial, if_pos trivial, if_pos trivial, if_pos trivial, hg]
      rfl
    · rw [hlen', acs_append]
      have e1 : acs [u] = acC u := by simp [acs]
      rw [e1]
      have hA : cur.toList.take (l.length * 4) = acs l := by
        have h2 : (cur.toList.take ((l.length + 1) * 4)).take (l.length * 4) = (acs (l ++ [t])).take (l.length * 4) := by rw [ht]
        rw [List.take_take, Nat.min_eq_left (by omega), acs_append, ← acs_length l, List.take_left] at h2
        rw [acs_length] at h2
        exact h2
      have h9 := Nat.mul_le_mul_right 4 hle
      have e9 : cur.toList.length = cap * 4 := by rw [Array.length_toList]; exact hs
      have := list_set4 cur.toList (l.length * 4) (.int .i64 (u.1.k : Int)) (.string (str u.1.n)) (.int .i64 (u.1.p : Int)) (.slice u.2.1 u.1.b.length u.2.2) (by omega) _ hA
      rw [show (l.length + 1) * 4 = l.length * 4 + 4 by omega]
      unfold acC
      simpa using this
#print axioms torn_any
end Go.Proofs.Ytkhpjlgbiicdcaa
