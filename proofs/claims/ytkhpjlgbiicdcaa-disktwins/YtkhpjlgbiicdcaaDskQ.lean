/-
  disk: slices.DeleteFunc over acts.
-/
import Derived.Test.YtkhpjlgbiicdcaaDskO
set_option linter.unusedVariables false
namespace Go.Proofs.Ytkhpjlgbiicdcaa
open Go.RowKit Go.Maps

set_option maxHeartbeats 1000000 in
theorem clos_any (t : At) (n : Nm) (Z : Nat) (w : World) (hz : w.cell? ⟨Z, 0, none⟩ = some (.string (str n))) :
    Calls Try.prog 36 #[.agg #[.int .i64 (t.1.k : Int), .string (str t.1.n), .int .i64 (t.1.p : Int), .slice t.2.1 t.1.b.length t.2.2], .pointer (some ⟨Z, 0, none⟩)] w fun e w' => e = .returned (.bool (t.1.n == n)) ∧ Below w.heap.size w w' := by
  have t1 := toList_str t.1.n
  have t2 := toList_str n
  have hZ : Z < w.heap.size := World.block_lt_of_cell? w _ hz
  have hz2 : ∀ o, (w.alloc o).cell? ⟨Z, 0, none⟩ = some (.string (str n)) := fun o => by
    rw [((Below.refl w.heap.size w).alloc (Nat.le_refl _) o).cell hZ]; exact hz
  go_enter Try.func36, Try.ntmps36
  go_wp2
  go_ret
  exact ⟨rfl, (Below.refl _ _).alloc (Nat.le_refl _) _⟩

/-- The first act of that name. -/
def fidx (n : Nm) : List At → Nat
  | [] => 0
  | t :: r => if t.1.n == n then 0 else fidx n r + 1
theorem fidx_le (n : Nm) : ∀ l, fidx n l ≤ l.length
  | [] => Nat.le_refl _
  | t :: r => by unfold fidx; split <;> simp; exact fidx_le n r

set_option maxRecDepth 20000 in
set_option maxHeartbeats 2000000 in
theorem idxf_any (P : Option Addr) (pc : Nat) (l : List At) (L : Nat) (n : Nm) (Z : Nat) (w : World) (HL : Hid (L = l.length)) (hl : L ≤ 1000000) (ho : OwnA w P pc l) (hz : w.cell? ⟨Z, 0, none⟩ = some (.string (str n))) :
    Calls Try.prog 49 #[.slice P L pc, .func (.func 36) #[] #[.pointer (some ⟨Z, 0, none⟩)]] w fun e w' => Below w.heap.size w w' ∧ ((e = .returned (.int .i64 (-1)) ∧ Hid (∀ t ∈ l, (t.1.n == n) = false)) ∨ ∃ k : Nat, k < L ∧ e = .returned (.int .i64 (k : Int)) ∧ Hid (∀ t ∈ l.take k, (t.1.n == n) = false) ∧ Hid (∃ t, l[k]? = some t ∧ (t.1.n == n) = true)) := by
  go_enter Try.func49, Try.ntmps49
  go_wp2
  go_loopw [8] (fun v wr => ∃ k : Nat, k ≤ L ∧ v = .int .i64 (k : Int) ∧ Hid (∀ t ∈ l.take k, (t.1.n == n) = false) ∧ Hid (Below w.heap.size w wr)) (fun v _ => L - (intOf v).toNat)
  case atStart => exact ⟨0, Nat.zero_le _, rfl, (fun t ht => by simp at ht), Below.refl _ _⟩
  case round =>
    obtain ⟨k, hk, rfl, HA, HB⟩ := hrel
    by_cases hlt : k < L
    · have hlt2 : (k : Int) < (L : Int) := by omega
      obtain ⟨t, ht⟩ : ∃ t, l[k]? = some t := ⟨_, List.getElem?_eq_getElem (by have := unhide HL; omega)⟩
      obtain ⟨G, hG, a0, a1, a2, a3⟩ := (ho.below (unhide HB)).at ht
      have HT := hide ht
      have hzr : wr.cell? ⟨Z, 0, none⟩ = some (.string (str n)) := by rw [(unhide HB).cell (World.block_lt_of_cell? w _ hz)]; exact hz
      have HG := hide hG
      clear ht
      cases hb : (t.1.n == n) with
      | true =>
        have HBt := hide hb
        clear hb
        go_wp2_with fail
        refine (clos_any t n Z wr hzr).mono ?_
        rintro e w2 ⟨rfl, hb2⟩
        rw [unhide HBt]
        go_wp2
        go_ret
        exact ⟨(unhide HB).trans (hb2.mono (unhide HB).size), .inr ⟨k, hlt, rfl, HA, ⟨t, unhide HT, unhide HBt⟩⟩⟩
      | false =>
        have HBt := hide hb
        clear hb
        go_wp2_with fail
        refine (clos_any t n Z wr hzr).mono ?_
        rintro e w2 ⟨rfl, hb2⟩
        rw [unhide HBt]
        have HB2 := hide ((unhide HB).trans (hb2.mono (unhide HB).size))
        have HA2 : Hid (∀ t ∈ l.take (k + 1), (t.1.n == n) = false) := by
          intro u hu
          rw [take_snoc (unhide HT)] at hu
          rcases List.mem_append.1 hu with h' | h'
          · exact unhide HA u h'
          · rw [List.mem_singleton.1 h']; exact unhide HBt
        go_wp2_with fail
        rw [← unhide HG]
        clear hG a0 a1 a2 a3
        go_wp2
        go_roundw
        case rel => exact ⟨k + 1, by omega, by go_num, HA2, HB2⟩
        case measure => simp [intOf]; omega
    · obtain rfl : k = L := by omega
      go_wp2
      go_ret
      refine ⟨unhide HB, .inl ⟨rfl, fun t ht => unhide HA t ?_⟩⟩
      rw [List.take_of_length_le (by have := unhide HL; omega)]
      exact ht

theorem list_set4x {α : Type} (L : List α) (m : Nat) (v0 v1 v2 v3 : α) (h : m + 4 ≤ L.length) (j : Nat) :
    ((((L.set m v0).set (m + 1) v1).set (m + 2) v2).set (m + 3) v3)[j]? = if m ≤ j ∧ j < m + 4 then [v0, v1, v2, v3][j - m]? else L[j]? := by
  by_cases hj : m ≤ j ∧ j < m + 4
  · rw [if_pos hj]
    rcases (by omega : j = m ∨ j = m + 1 ∨ j = m + 2 ∨ j = m + 3) with rfl | rfl | rfl | rfl
    · rw [List.getElem?_set_ne (by omega), List.getElem?_set_ne (by omega), List.getElem?_set_ne (by omega), List.getElem?_set_self (by omega)]; simp
    · rw [List.getElem?_set_ne (by omega), List.getElem?_set_ne (by omega), List.getElem?_set_self (by simp; omega)]; simp
    · rw [List.getElem?_set_ne (by omega), List.getElem?_set_self (by simp; omega)]; simp
    · rw [List.getElem?_set_self (by simp; omega)]; simp
  · rw [if_neg hj, List.getElem?_set_ne (by omega), List.getElem?_set_ne (by omega), List.getElem?_set_ne (by omega), List.getElem?_set_ne (by omega)]
/-- The act at a place of a row is written anew. -/
theorem OwnA.setAt {w : World} {G cap : Nat} {l : List At} (h : OwnA w (some ⟨G, 0, none⟩) cap l) (i : Nat) (hi : i < l.length) (u : At) :
    OwnA ((((w.setCell ⟨G, i * 4, none⟩ (.int .i64 (u.1.k : Int))).setCell ⟨G, i * 4 + 1, none⟩ (.string (str u.1.n))).setCell ⟨G, i * 4 + 2, none⟩ (.int .i64 (u.1.p : Int))).setCell ⟨G, i * 4 + 3, none⟩ (.slice u.2.1 u.1.b.length u.2.2)) (some ⟨G, 0, none⟩) cap (l.set i u) := by
  rcases h.cases with ⟨e, _⟩ | ⟨g, cur, e, hg, hle, hm, hs, ht⟩
  · cases e
  · obtain rfl : G = g := by simpa using e
    have hlen : (l.set i u).length = l.length := by simp
    refine ⟨acs_length _, .inr ⟨G, cap, (((cur.set! (i * 4) (.int .i64 (u.1.k : Int))).set! (i * 4 + 1) (.string (str u.1.n))).set! (i * 4 + 2) (.int .i64 (u.1.p : Int))).set! (i * 4 + 3) (.slice u.2.1 u.1.b.length u.2.2), by rw [hlen], Nat.zero_le _, ?_, by rw [hlen]; exact hle, hm, by simpa using hs, ?_⟩⟩
    · simp only [World.setCell, Array.getElem?_modify]
      rw [if_pos trivial, if_pos trivial, if_pos trivial, if_pos trivial, hg]
      rfl
    · rw [hlen]
      have h9 := Nat.mul_le_mul_right 4 hle
      have e9 : cur.toList.length = cap * 4 := by rw [Array.length_toList]; exact hs
      have key := list_set4x cur.toList (i * 4) (.int .i64 (u.1.k : Int)) (.string (str u.1.n)) (.int .i64 (u.1.p : Int)) (.slice u.2.1 u.1.b.length u.2.2) (by omega)
      apply List.ext_getElem?
      intro m
      rw [List.getElem?_take]
      by_cases hm4 : m < l.length * 4
      · rw [if_pos hm4]
        have e1 : ((((cur.set! (i * 4) (.int .i64 (u.1.k : Int))).set! (i * 4 + 1) (.string (str u.1.n))).set! (i * 4 + 2) (.int .i64 (u.1.p : Int))).set! (i * 4 + 3) (.slice u.2.1 u.1.b.length u.2.2)).toList = ((((cur.toList.set (i * 4) (.int .i64 (u.1.k : Int))).set (i * 4 + 1) (.string (str u.1.n))).set (i * 4 + 2) (.int .i64 (u.1.p : Int))).set (i * 4 + 3) (.slice u.2.1 u.1.b.length u.2.2)) := by simp
        rw [e1, key m]
        have hq : m / 4 < l.length := by omega
        have hmd : m = (m / 4) * 4 + m % 4 := by omega
        by_cases hmi : m / 4 = i
        · rw [if_pos (by omega)]
          conv => rhs; rw [hmd]
          rw [acs_get (l.set i u) (m / 4) (m % 4) u (by rw [hmi]; simp [hi]) (by omega)]
          have : m - i * 4 = m % 4 := by omega
          rw [this]; rfl
        · rw [if_neg (by omega)]
          have hct : cur.toList[m]? = (acs l)[m]? := by rw [← ht, List.getElem?_take, if_pos hm4]
          rw [hct]
          conv => lhs; rw [hmd]
          conv => rhs; rw [hmd]
          rw [acs_get (l.set i u) (m / 4) (m % 4) l[m / 4] (by rw [List.getElem?_set_ne (by omega)]; exact List.getElem?_eq_getElem hq) (by omega), acs_get l (m / 4) (m % 4) l[m / 4] (List.getElem?_eq_getElem hq) (by omega)]
      · rw [if_neg hm4, List.getElem?_eq_none (by rw [acs_length, hlen]; omega)]
/-- What stands behind is cleared. -/
theorem run_clr {w : World} {G cap c : Nat} {l : List At} (h : OwnA w (some ⟨G, 0, none⟩) cap l) (i : Nat) (hi : i < l.length) (ty : TypeId) :
    ∃ w', (Builtin.clear_ #[55] ty #[.slice (some ⟨G, i * 4, none⟩) (l.length - i) c]).run Try.prog w = .ok (.tuple #[]) w' ∧ OwnA w' (some ⟨G, 0, none⟩) cap (l.take i) ∧ w.grownBy w' (some G) := by
  rcases h.cases with ⟨e, _⟩ | ⟨g, cur, e, hg, hle, hm, hs, ht⟩
  · cases e
  · obtain rfl : G = g := by simpa using e
    have hzr : ∀ w, (zeroValue 63).run Try.prog w = .ok (.agg #[.int .i64 0, .string ⟨#[]⟩, .int .i64 0, .slice none 0 0]) w := fun w => by kernel_rfl
    have hzl : (Builtin.zeroCells (Value.agg #[.int .i64 0, .string ⟨#[]⟩, .int .i64 0, .slice none 0 0]).cells (l.length - i)).toList.length = (l.length - i) * 4 := by
      rw [Array.length_toList, size_zeroCells]; rfl
    have hone : ∀ v ∈ (Builtin.zeroCells (Value.agg #[.int .i64 0, .string ⟨#[]⟩, .int .i64 0, .slice none 0 0]).cells (l.length - i)).toList, v.oneCell' = true := by
      intro v hv
      simp [Builtin.zeroCells] at hv
      obtain ⟨a, ha, rfl⟩ := hv
      simp only [Value.cells]
      rcases (by omega : a % 4 = 0 ∨ a % 4 = 1 ∨ a % 4 = 2 ∨ a % 4 = 3) with h' | h' | h' | h' <;> simp [h'] <;> rfl
    have h9 := Nat.mul_le_mul_right 4 hle
    have hst := run_storeCells_at Try.prog G (i * 4) 63 (Builtin.zeroCells (Value.agg #[.int .i64 0, .string ⟨#[]⟩, .int .i64 0, .slice none 0 0]).cells (l.length - i)).toList 0 cur w hg (by rw [hzl, hs]; omega) hone
    simp only [Nat.add_zero] at hst
    have hn0 : l.length - i ≠ 0 := by omega
    obtain ⟨q, hq⟩ : ∃ q, l.length - i = q + 1 := ⟨l.length - i - 1, by omega⟩
    refine ⟨w.setRow G (cur.toList.take (i * 4) ++ (Builtin.zeroCells (Value.agg #[.int .i64 0, .string ⟨#[]⟩, .int .i64 0, .slice none 0 0]).cells (l.length - i)).toList ++ cur.toList.drop (i * 4 + (Builtin.zeroCells (Value.agg #[.int .i64 0, .string ⟨#[]⟩, .int .i64 0, .slice none 0 0]).cells (l.length - i)).toList.length)).toArray, ?_, ?_, ?_⟩
    · rw [hq] at hst ⊢
      simp [Builtin.clear_, run_underlying Try.underlying55, hzr, hst, Result.andThen]
    · have e1 : (l.take i).length = i := by simp; omega
      refine ⟨acs_length _, .inr ⟨G, cap, _, rfl, Nat.zero_le _, setRow_heap w G cur _ 63 _ hg, by omega, hm, ?_, ?_⟩⟩
      · simp only [List.size_toArray, List.length_append, List.length_take, List.length_drop, Array.length_toList, hzl]
        omega
      · rw [e1, List.toList_toArray, List.append_assoc]
        have h5 : (cur.toList.take (i * 4)).length = i * 4 := by rw [List.length_take, Array.length_toList]; omega
        rw [List.take_append_of_le_length (by omega), List.take_take, Nat.min_self]
        have h2 : (cur.toList.take (l.length * 4)).take (i * 4) = (acs l).take (i * 4) := by rw [ht]
        rw [List.take_take, Nat.min_eq_left (by omega)] at h2
        rw [h2]
        have h6 : acs l = acs (l.take i) ++ acs (l.drop i) := by rw [← acs_append, List.take_append_drop]
        rw [h6, ← show (acs (l.take i)).length = i * 4 by rw [acs_length, e1], List.take_left]
    · exact ⟨rfl, rfl, rfl, by simp, fun k _ hk => setRow_other w G k _ (fun e => hk (by rw [e]))⟩
#print axioms OwnA.setAt
#print axioms run_clr
end Go.Proofs.Ytkhpjlgbiicdcaa
