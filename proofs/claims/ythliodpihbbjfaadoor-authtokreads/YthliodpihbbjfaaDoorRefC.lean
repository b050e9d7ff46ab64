/-
  THE WALKS of the reference's cursor.
-/
import Derived.Test.YthliodpihbbjfaaDoorRefR
set_option linter.unusedVariables false
namespace Go.Proofs.YthliodpihbbjfaaDoor
open Go.RowKit

/-- The reference's cursor in block X over the bytes l, of which so many were read. -/
structure RC (w : World) (X : Nat) (a : Option Addr) (cap : Nat) (l : List UInt8) (at' : Nat) : Prop where
  hp : w.heap[X]? = some (.cells #[.slice a l.length cap, .int .i64 (at' : Int)] 74 (0, 0))
  bs : Bs w a cap l
  le : at' ≤ l.length
  ne : l ≠ [] → blk a ≠ some X
  small : l.length ≤ 100000000
theorem RC.c0 {w : World} {X : Nat} {a : Option Addr} {cap : Nat} {l : List UInt8} {at' : Nat} (h : RC w X a cap l at') : w.cell? ⟨X, 0, none⟩ = some (.slice a l.length cap) := by rw [cell_of_row w X 0 _ _ _ h.hp]; rfl
theorem RC.c1 {w : World} {X : Nat} {a : Option Addr} {cap : Nat} {l : List UInt8} {at' : Nat} (h : RC w X a cap l at') : w.cell? ⟨X, 1, none⟩ = some (.int .i64 (at' : Int)) := by rw [cell_of_row w X 1 _ _ _ h.hp]; rfl
theorem RC.fr {w : World} {X : Nat} {a : Option Addr} {cap : Nat} {l : List UInt8} {at' : Nat} (h : RC w X a cap l at') (i : Nat) : w.frozen? ⟨X, i, none⟩ = false := frozen_of_row w X i _ _ h.hp
theorem RC.below {w w' : World} {X B : Nat} {a : Option Addr} {cap : Nat} {l : List UInt8} {at' : Nat} (h : RC w X a cap l at') (hb : Below B w w') (hB : w.heap.size ≤ B) : RC w' X a cap l at' :=
  ⟨by rw [hb.block X (by have := (Array.getElem?_eq_some_iff.1 h.hp).1; omega)]; exact h.hp, h.bs.below hb hB, h.le, h.ne, h.small⟩
theorem RC.drewN {w : World} {X : Nat} {a : Option Addr} {cap : Nat} {l : List UInt8} {at' : Nat} (h : RC w X a cap l at') (n : Nat) : RC (w.drewN n) X a cap l at' := h.below (below_drewN (Below.refl w.heap.size w) n) (Nat.le_refl _)
theorem RC.moved {w : World} {X : Nat} {a : Option Addr} {cap : Nat} {l : List UInt8} {at' : Nat} (h : RC w X a cap l at') (n : Nat) (hn : n ≤ l.length) (x : Int) (hx : x = (n : Int)) : RC (w.setCell ⟨X, 1, none⟩ (.int .i64 x)) X a cap l n := by
  subst hx
  refine ⟨?_, ?_, hn, h.ne, h.small⟩
  · simp only [World.setCell, Array.getElem?_modify]
    rw [if_pos trivial, h.hp]
    rfl
  · by_cases hl : l = []
    · subst hl; exact ⟨fun h => absurd rfl h, h.bs.le, h.bs.most, h.bs.nz⟩
    · exact h.bs.grown (grownBy_set w ⟨X, 1, none⟩ _) (.inr (h.ne hl))
theorem RC.kept {w w' : World} {X : Nat} {a : Option Addr} {cap : Nat} {l : List UInt8} {at' : Nat} (h : RC w X a cap l at') {row : Option Nat} (hg : w.grownBy w' row) (hX : some X ≠ row) (ha : l ≠ [] → blk a ≠ row) : RC w' X a cap l at' := by
  refine ⟨by rw [hg.block X (Array.getElem?_eq_some_iff.1 h.hp).1 hX]; exact h.hp, ?_, h.le, h.ne, h.small⟩
  by_cases hl : l = []
  · subst hl; exact ⟨fun h => absurd rfl h, h.bs.le, h.bs.most, h.bs.nz⟩
  · exact h.bs.grown hg (.inr (ha hl))

theorem slice_tail (a : Option Addr) (cap E : Nat) (l : List UInt8) (hle : l.length ≤ cap) (h1 : E ≤ l.length) (hrow : l ≠ [] → ∃ b off, a = some ⟨b, off, none⟩) :
    ∃ a', (∀ w, (Instr.slice 39 (.slice a l.length cap) (some (.int .i64 (E : Int))) none none).run Tryd.prog w = .ok (.slice a' (l.drop E).length (cap - E)) w) ∧ ∀ w, Bs w a cap l → Bs w a' (cap - E) (l.drop E) := by
  refine ⟨if cap = E then a else a.map (·.add (E * 1)), fun w => ?_, fun w hB => ?_⟩
  · rw [run_slice_l (P := Tryd.prog) w 39 _ _ cap Tryd.elemB .i64 (E : Int) (by omega) (by omega), Tryd.sizeB]
    simp only [Result.andThen, sliced, Int.toNat_natCast, List.length_drop]
  · refine ⟨?_, by simp; have := hB.le; omega, by have := hB.most; omega, ?_⟩
    · by_cases hc : cap = E
      · intro h; exact absurd (List.drop_eq_nil_of_le (by omega)) h
      · rw [if_neg hc]
        by_cases hl : l = []
        · subst hl; intro h; simp at h
        · obtain ⟨b, off, rfl⟩ := hrow hl
          rw [Option.map_some, Nat.mul_one, addr_add]
          exact hB.row.drop E
    · intro h
      by_cases hc : cap = E
      · omega
      · rw [if_neg hc] at h
        have := hB.nz (by cases a <;> simp_all)
        omega
set_option maxHeartbeats 2000000 in
theorem rnumber_any' (X : Nat) (a : Option Addr) (cap : Nat) (l : List UInt8) (at' : Nat) (w : World) (h : RC w X a cap l at') :
    Calls Tryd.prog 39 #[.pointer (some ⟨X, 0, none⟩)] w fun e w' => ∃ N S E : Nat, e = .returned (.tuple #[.int .i64 (N : Int), .int .i64 (E : Int)]) ∧ Hid ((N, S, E) = rd (l.drop at')) ∧ RC w' X a cap l (at' + S) ∧ w.grownBy w' (some X) := by
  have c0 := h.c0
  have c1 := h.c1
  have hsm := h.small
  have hle := h.le
  have f1 := h.fr 1
  have hcl := h.bs.le
  obtain ⟨a', hsl, hBt⟩ := slice_tail a cap at' l hcl hle (fun hne => by obtain ⟨b, off, e, _⟩ := h.bs.row hne; exact ⟨b, off, e⟩)
  have hrdl := rd_le (l.drop at')
  obtain ⟨N, S, E, hr⟩ : ∃ N S E, (N, S, E) = rd (l.drop at') := ⟨_, _, _, rfl⟩
  rw [← hr] at hrdl
  simp only [List.length_drop] at hrdl
  have hcall : ∀ n, Calls Tryd.prog 65 #[.slice a' (l.length - at') (cap - at')] (w.drewN n) fun e w' => e = .returned (.tuple #[.int .i64 (N : Int), .int .i64 (S : Int), .int .i64 (E : Int)]) ∧ w' = w.drewN n := by
    intro n
    refine (rread_any a' (l.length - at') (cap - at') (l.drop at') _ (hBt _ (h.drewN n).bs) (by simp)).mono ?_
    rintro e w' ⟨N', S', E', rfl, hr', rfl⟩
    have := (unhide hr').trans hr.symm
    simp only [Prod.mk.injEq] at this
    obtain ⟨rfl, rfl, rfl⟩ := this
    exact ⟨rfl, rfl⟩
  have Hcall := hide hcall
  have HR := hide hr
  have H := hide h
  simp only [List.length_drop] at hsl
  clear hcall hr hBt h
  go_enter Tryd.func39, Tryd.ntmps39
  go_wp2_with fail
  go_quiet (first | (go_at_call 65; refine Calls.quiet_of_same (unhide Hcall _)))
  go_wp2
  go_ret2
  exact ⟨N, S, E, rfl, HR, ((unhide H).drewN nq).moved (at' + S) (by omega) _ (by omega), grownBy_trans (grownBy_drewN _ _ _) (grownBy_set _ ⟨X, 1, none⟩ _)⟩

theorem cut_mid (a : Option Addr) (n cap E K : Nat) (l : List UInt8) (h1 : E ≤ K) (h2 : K ≤ l.length) (hle : l.length ≤ cap) (hrow : l ≠ [] → ∃ b off, a = some ⟨b, off, none⟩) :
    ∃ a', (∀ w, (Instr.slice 39 (.slice a n cap) (some (.int .i64 (E : Int))) (some (.int .i64 (K : Int))) none).run Tryd.prog w = .ok (.slice a' (K - E) (cap - E)) w) ∧ ∀ w, Bs w a cap l → Row w a' ((l.drop E).take (K - E)) := by
  refine ⟨if cap = E then a else a.map (·.add (E * 1)), fun w => ?_, fun w hB => ?_⟩
  · rw [run_slice_lh (P := Tryd.prog) w 39 _ n cap Tryd.elemB .i64 .i64 (E : Int) (K : Int) (by omega) (by omega) (by omega), Tryd.sizeB]
    simp only [Result.andThen, sliced, Int.toNat_natCast]
  · by_cases hc : cap = E
    · intro h
      exfalso
      apply h
      rw [show K - E = 0 by omega]
      simp
    · rw [if_neg hc]
      by_cases hl : l = []
      · subst hl; intro h; simp at h
      · obtain ⟨b, off, rfl⟩ := hrow hl
        rw [Option.map_some, Nat.mul_one, addr_add]
        exact (hB.row.drop E).take (K - E)

set_option maxHeartbeats 4000000 in
theorem rtext_any' (X : Nat) (a : Option Addr) (cap : Nat) (l : List UInt8) (at' : Nat) (m : Int) (w : World) (h : RC w X a cap l at') (hm0 : -9223372036854775808 ≤ m) (hm1 : m ≤ 9223372036854775807) :
    Calls Tryd.prog 40 #[.pointer (some ⟨X, 0, none⟩), .int .i64 m] w fun e w' => ∃ t, ∃ E S : Nat, e = .returned (.tuple #[.string (str t), .int .i64 (E : Int)]) ∧ Hid ((t, E, S) = tx (l.drop at') m) ∧ RC w' X a cap l (at' + S) ∧ w.grownBy w' (some X) := by
  have c0 := h.c0
  have c1 := h.c1
  have hsm := h.small
  have hle := h.le
  have f1 := h.fr 1
  have hcl := h.bs.le
  have hrow0 : l ≠ [] → ∃ b off, a = some ⟨b, off, none⟩ := fun hne => by obtain ⟨b, off, e, _⟩ := h.bs.row hne; exact ⟨b, off, e⟩
  obtain ⟨a', hsl, hBt⟩ := slice_tail a cap at' l hcl hle hrow0
  have hrdl := rd_le (l.drop at')
  obtain ⟨N, S, E, hr⟩ : ∃ N S E, (N, S, E) = rd (l.drop at') := ⟨_, _, _, rfl⟩
  rw [← hr] at hrdl
  simp only [List.length_drop] at hrdl
  have hcall : ∀ n, Calls Tryd.prog 65 #[.slice a' (l.length - at') (cap - at')] (w.drewN n) fun e w' => e = .returned (.tuple #[.int .i64 (N : Int), .int .i64 (S : Int), .int .i64 (E : Int)]) ∧ w' = w.drewN n := by
    intro n
    refine (rread_any a' (l.length - at') (cap - at') (l.drop at') _ (hBt _ (h.drewN n).bs) (by simp)).mono ?_
    rintro e w' ⟨N', S', E', rfl, hr', rfl⟩
    have := (unhide hr').trans hr.symm
    simp only [Prod.mk.injEq] at this
    obtain ⟨rfl, rfl, rfl⟩ := this
    exact ⟨rfl, rfl⟩
  have Hcall := hide hcall
  have H := hide h
  have HTX : Hid (tx (l.drop at') m = if E ≠ 0 then ([], E, 0) else if max m 0 < (N : Int) then ([], 4, 0) else if l.length - at' - S < N then ([], 2, 0) else (((l.drop at').drop S).take N, 0, S + N)) := by
    show _ = _
    rw [tx, ← hr]
    simp only [List.length_drop]
  simp only [List.length_drop] at hsl
  obtain ⟨hS, hNl, _⟩ := hrdl
  clear hcall hr hBt h
  by_cases hE : E = 0
  · subst hE
    by_cases hL : max m 0 < (N : Int)
    · have HT : Hid (([], 4, 0) = tx (l.drop at') m) := by show _ = _; rw [unhide HTX, if_neg (by simp), if_pos hL]
      have hN0 : (0 : Int) < (N : Int) := by omega
      have hNm : m < (N : Int) := by omega
      clear HTX hL
      go_enter Tryd.func40, Tryd.ntmps40
      go_wp2_with fail
      go_quiet (first | (go_at_call 65; refine Calls.quiet_of_same (unhide Hcall _)))
      go_wp2
      go_ret2
      exact ⟨[], 4, 0, rfl, HT, (unhide H).drewN nq, grownBy_drewN _ _ _⟩
    · have hpick : ¬ (m < (N : Int) ∧ (0 : Int) < (N : Int)) := by omega
      have hcases : decide (m < (N : Int)) = false ∨ (decide (m < (N : Int)) = true ∧ decide ((0 : Int) < (N : Int)) = false) := by
        by_cases h1 : m < (N : Int)
        · exact .inr ⟨by simp [h1], by simp; omega⟩
        · exact .inl (by simp; omega)
      clear hpick
      obtain ⟨D1, hD1⟩ : ∃ D1 : Nat, D1 = l.length - at' := ⟨_, rfl⟩
      obtain ⟨D2, hD2⟩ : ∃ D2 : Nat, D2 = D1 - S := ⟨_, rfl⟩
      have hD1i : (l.length : Int) - (at' : Int) = (D1 : Int) := by omega
      have hD2i : (D1 : Int) - (S : Int) = (D2 : Int) := by omega
      have hD1w : IntKind.i64.wrap ((l.length : Int) - (at' : Int)) = (D1 : Int) := by rw [hD1i, IntKind.wrap_i64]; omega
      have hD2w : IntKind.i64.wrap ((D1 : Int) - (S : Int)) = (D2 : Int) := by rw [hD2i, IntKind.wrap_i64]; omega
      have hD2l : D2 ≤ 100000000 := by omega
      by_cases hSh : D2 < N
      · have HT : Hid (([], 2, 0) = tx (l.drop at') m) := by show _ = _; rw [unhide HTX, if_neg (by simp), if_neg hL, if_pos (by omega)]
        have hShi : (D2 : Int) < (N : Int) := by omega
        clear HTX hL hD1 hD2
        rcases hcases with h1 | ⟨h1, h2⟩
        · go_enter Tryd.func40, Tryd.ntmps40
          go_wp2_with fail
          go_quiet (first | (go_at_call 65; refine Calls.quiet_of_same (unhide Hcall _)))
          go_wp2_with fail
          go_quiet (fail)
          go_wp2
          go_ret2
          exact ⟨[], 2, 0, rfl, HT, ((unhide H).drewN _).drewN _, grownBy_trans (grownBy_drewN _ _ _) (grownBy_drewN _ _ _)⟩
        · have h2n : decide (0 < N) = false := by simp at h2 ⊢; omega
          go_enter Tryd.func40, Tryd.ntmps40
          go_wp2_with fail
          go_quiet (first | (go_at_call 65; refine Calls.quiet_of_same (unhide Hcall _)))
          go_wp2_with fail
          go_quiet (fail)
          go_wp2
          go_ret2
          exact ⟨[], 2, 0, rfl, HT, ((unhide H).drewN _).drewN _, grownBy_trans (grownBy_drewN _ _ _) (grownBy_drewN _ _ _)⟩
      · have HT : Hid ((((l.drop at').drop S).take N, 0, S + N) = tx (l.drop at') m) := by show _ = _; rw [unhide HTX, if_neg (by simp), if_neg hL, if_neg (by omega)]
        have hShi : ¬ (D2 : Int) < (N : Int) := by omega
        have hShd : decide ((D2 : Int) < (N : Int)) = false := by simp; omega
        obtain ⟨E1, hE1⟩ : ∃ E1 : Nat, E1 = at' + S := ⟨_, rfl⟩
        obtain ⟨K1, hK1⟩ : ∃ K1 : Nat, K1 = E1 + N := ⟨_, rfl⟩
        have hE1i : (at' : Int) + (S : Int) = (E1 : Int) := by omega
        have hK1i : (E1 : Int) + (N : Int) = (K1 : Int) := by omega
        have hE1w : IntKind.i64.wrap ((at' : Int) + (S : Int)) = (E1 : Int) := by rw [hE1i, IntKind.wrap_i64]; omega
        have hK1w : IntKind.i64.wrap ((E1 : Int) + (N : Int)) = (K1 : Int) := by rw [hK1i, IntKind.wrap_i64]; omega
        have hNi : N ≤ 100000000 := by omega
        obtain ⟨am, hslm, hrm⟩ := cut_mid a l.length cap E1 K1 l (by omega) (by omega) hcl hrow0
        have hKE : K1 - E1 = N := by omega
        rw [hKE] at hslm hrm
        have hcv : ∀ n, (convert 39 9 (.slice am N (cap - E1))).run Tryd.prog (w.drewN n) = .ok (.string (str ((l.drop E1).take N))) (w.drewN n) := fun n => run_str _ _ _ _ _ (hrm _ ((unhide H).drewN n).bs) (by simp; omega)
        have HT2 : Hid (((l.drop E1).take N, 0, S + N) = tx (l.drop at') m) := by show _ = _; rw [← unhide HT, List.drop_drop, hE1]
        have HE1 := hide hE1
        have hK1l : K1 ≤ l.length := by omega
        have hE1l : E1 ≤ K1 := by omega
        have HK : Hid (K1 = at' + (S + N)) := by show _ = _; omega
        clear HTX hL hD1 hD2 HT hE1 hK1 hrm hKE hrow0
        rcases hcases with h1 | ⟨h1, h2⟩
        · go_enter Tryd.func40, Tryd.ntmps40
          go_wp2_with fail
          go_quiet (first | (go_at_call 65; refine Calls.quiet_of_same (unhide Hcall _)))
          go_wp2_with fail
          go_quiet (fail)
          go_wp2_with fail
          go_quiet (fail)
          go_wp2
          go_ret2
          exact ⟨(l.drop E1).take N, 0, S + N, rfl, HT2, ((unhide H).drewN _).moved (at' + (S + N)) (by have := unhide HK; omega) _ (by omega), grownBy_trans (grownBy_drewN _ _ _) (grownBy_set _ ⟨X, 1, none⟩ _)⟩
        · have h2n : decide (0 < N) = false := by simp at h2 ⊢; omega
          go_enter Tryd.func40, Tryd.ntmps40
          go_wp2_with fail
          go_quiet (first | (go_at_call 65; refine Calls.quiet_of_same (unhide Hcall _)))
          go_wp2_with fail
          go_quiet (fail)
          go_wp2_with fail
          go_quiet (fail)
          go_wp2
          go_ret2
          exact ⟨(l.drop E1).take N, 0, S + N, rfl, HT2, ((unhide H).drewN _).moved (at' + (S + N)) (by have := unhide HK; omega) _ (by omega), grownBy_trans (grownBy_drewN _ _ _) (grownBy_set _ ⟨X, 1, none⟩ _)⟩
  · have HT : Hid (([], E, 0) = tx (l.drop at') m) := by show _ = _; rw [unhide HTX, if_pos hE]
    have hEd : ((E : Int) != 0) = true := by simp; omega
    clear HTX
    go_enter Tryd.func40, Tryd.ntmps40
    go_wp2_with fail
    go_quiet (first | (go_at_call 65; refine Calls.quiet_of_same (unhide Hcall _)))
    go_wp2
    go_ret2
    exact ⟨[], E, 0, rfl, HT, (unhide H).drewN nq, grownBy_drewN _ _ _⟩
#print axioms rtext_any'
end Go.Proofs.YthliodpihbbjfaaDoor
