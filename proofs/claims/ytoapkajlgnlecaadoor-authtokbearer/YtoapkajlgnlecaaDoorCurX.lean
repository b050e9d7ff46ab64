/-
  THE WALKS of wire's cursor: From, Number, Text, Rest, End, At, Byte.
-/
import Derived.Test.YtoapkajlgnlecaaDoorCurW
set_option linter.unusedVariables false
namespace Go.Proofs.YtoapkajlgnlecaaDoor
open Go.RowKit

theorem grownBy_drewN (w : World) (n : Nat) (row : Option Nat) : w.grownBy (w.drewN n) row := ⟨rfl, rfl, rfl, Nat.le_refl _, fun _ _ _ => rfl⟩
theorem grownBy_trans {a b c : World} {row : Option Nat} (h : a.grownBy b row) (k : b.grownBy c row) : a.grownBy c row :=
  ⟨k.os.trans h.os, k.tape.trans h.tape, k.output.trans h.output, Nat.le_trans h.size k.size, fun i hi hne => (k.block i (Nat.lt_of_lt_of_le hi h.size) hne).trans (h.block i hi hne)⟩
theorem grownBy_set (w : World) (p : Addr) (u : Value) : w.grownBy (w.setCell p u) (some p.block) :=
  ⟨rfl, rfl, rfl, by simp [World.setCell], fun k hk hne => Below.heap_setCell w p u k (by intro h; subst h; exact hne rfl)⟩

theorem Cur.below {w w' : World} {C B : Nat} {a : Option Addr} {cap : Nat} {l : List UInt8} {at' : Nat} (h : Cur w C a cap l at') (hb : Below B w w') (hB : w.heap.size ≤ B) : Cur w' C a cap l at' := by
  have hC : C < w.heap.size := (Array.getElem?_eq_some_iff.1 h.hp).1
  exact ⟨by rw [hb.block C (by omega)]; exact h.hp, h.bs.below hb hB, h.le, h.ne, h.small⟩

theorem Cur.drewN {w : World} {C : Nat} {a : Option Addr} {cap : Nat} {l : List UInt8} {at' : Nat} (h : Cur w C a cap l at') (n : Nat) : Cur (w.drewN n) C a cap l at' := h.below (below_drewN (Below.refl w.heap.size w) n) (Nat.le_refl _)

theorem Cur.moved {w : World} {C : Nat} {a : Option Addr} {cap : Nat} {l : List UInt8} {at' : Nat} (h : Cur w C a cap l at') (n : Nat) (hn : n ≤ l.length) (x : Int) (hx : x = (n : Int)) : Cur (w.setCell ⟨C, 0, none⟩ (.int .i64 x)) C a cap l n := by
  subst hx
  refine ⟨?_, ?_, hn, h.ne, h.small⟩
  · have hC : C < w.heap.size := (Array.getElem?_eq_some_iff.1 h.hp).1
    simp only [World.setCell, Array.getElem?_modify]
    rw [if_pos trivial, h.hp]
    rfl
  · by_cases hl : l = []
    · subst hl
      exact ⟨fun q => absurd rfl q, h.bs.le, h.bs.most, h.bs.nz⟩
    · exact h.bs.grown (grownBy_set w ⟨C, 0, none⟩ _) (.inr (h.ne hl))

theorem rd_zero (l : List UInt8) (N S E : Nat) (h : (N, S, E) = rd l) (hE : E ≠ 0) : S = 0 ∧ N = 0 := by
  have hE2 : (rd l).2.2 ≠ 0 := by rw [← h]; exact hE
  revert hE2 h
  cases l with
  | nil => intro h1 h2; simp [rd] at h1; omega
  | cons c t =>
    intro h1 h2
    unfold rd at h1 h2
    simp only at h1 h2
    split at h1
    · rename_i q; rw [if_pos q] at h2; exact absurd rfl h2
    · split at h1
      · simp at h1; omega
      · split at h1
        · simp at h1; omega
        · split at h1
          · simp at h1; omega
          · rename_i q1 q2 q3 q4; rw [if_neg q1, if_neg q2, if_neg q3, if_neg q4] at h2; exact absurd rfl h2

/-- What Text answers: the text, the error's number, how many bytes were read. -/
def tx (l : List UInt8) (m : Int) : List UInt8 × Nat × Nat :=
  if (rd l).2.2 ≠ 0 then ([], (rd l).2.2, 0)
  else if max m 0 < ((rd l).1 : Int) then ([], 4, 0)
  else if l.length - (rd l).2.1 < (rd l).1 then ([], 2, 0)
  else ((l.drop (rd l).2.1).take (rd l).1, 0, (rd l).2.1 + (rd l).1)

set_option maxHeartbeats 1000000 in
/-- wire.From. -/
theorem from_any (a : Option Addr) (n cap : Nat) (l : List UInt8) (w : World) (hB : Bs w a cap l) (hn : n = l.length) (hl : l.length ≤ 100000000) :
    Calls Tryd.prog 33 #[.slice a n cap] w fun e w' => ∃ C a' cap', e = .returned (.pointer (some ⟨C, 0, none⟩)) ∧ Cur w' C a' cap' l 0 ∧ w.heap.size ≤ C ∧ (∀ k, blk a' = some k → w.heap.size ≤ k) ∧ Below w.heap.size w w' := by
  subst hn
  go_enter Tryd.func33, Tryd.ntmps33
  go_wp2_with fail
  refine (bclone_any a _ cap l w hB rfl hl).mono ?_
  rintro e w1 ⟨a1, cap1, r, rfl, hr, ho, hb⟩
  have er : l = r := hr.out.symm
  subst er
  have hs := hb.size
  have hcur : Cur (w1.alloc (.cells #[.int .i64 0, .slice a1 l.length cap1, .bool true] 105)) w1.heap.size a1 cap1 l 0 := by
    refine ⟨heap_alloc_new w1 _, ho.toBs.alloc _, Nat.zero_le _, fun hne h => ?_, hl⟩
    have := (ho.lt _ h).2
    omega
  have H := hide hcur
  clear hcur hr
  go_wp2
  go_ret
  exact ⟨w1.heap.size, a1, cap1, rfl, unhide H, hs, fun k hk => (ho.lt k hk).1, hb.alloc hs _⟩

set_option maxHeartbeats 1000000 in
/-- Cursor.Number. -/
theorem cnumber_any (C : Nat) (a : Option Addr) (cap : Nat) (l : List UInt8) (at' : Nat) (w : World) (hC : Cur w C a cap l at') :
    Calls Tryd.prog 34 #[.pointer (some ⟨C, 0, none⟩)] w fun e w' => ∃ N S E : Nat, e = .returned (.tuple #[.int .i64 (N : Int), .int .i64 (E : Int)]) ∧ Hid ((N, S, E) = rd (l.drop at')) ∧ Cur w' C a cap l (at' + S) ∧ w.grownBy w' (some C) := by
  go_enter Tryd.func34, Tryd.ntmps34
  go_wp2_with fail
  refine (unmade_made C a cap l at' w hC).mono ?_
  rintro e w0 ⟨rfl, rfl⟩
  go_wp2_with fail
  refine (left_any C a cap l at' _ hC).mono ?_
  rintro e w1 ⟨a1, nd, rfl, hB1, hba1, rfl⟩
  go_wp2_with fail
  refine (first_any a1 _ _ (l.drop at') _ hB1 (by rw [List.length_drop])).mono ?_
  rintro e w2 ⟨N, S, E, rfl, hrd, rfl⟩
  have hd := rd_le (l.drop at')
  rw [← hrd.out] at hd
  simp only [List.length_drop] at hd
  obtain ⟨hd1, hd2, hd3⟩ := hd
  have hsm := hC.small
  have hle := hC.le
  by_cases hE : E = 0
  · subst hE
    have hC1 := hC.drewN nd
    have h0 := hC1.c0
    have hf := hC1.fr 0
    have HM := hide (hC1.moved (at' + S) (by omega) ((at' : Int) + (S : Int)) (by omega))
    go_wp2_with fail
    refine (forward_any C (at' : Int) (S : Int) _ h0 hf (by omega) (by omega) (by omega) (by omega)).mono ?_
    rintro e w3 ⟨rfl, rfl⟩
    go_wp2
    go_ret2
    exact ⟨N, S, 0, rfl, hrd, unhide HM, grownBy_trans (grownBy_drewN w0 nd _) (grownBy_set _ ⟨C, 0, none⟩ _)⟩
  · have hne : ((E : Int) != 0) = true := by rw [bne_iff_ne]; omega
    have hS : S = 0 ∧ N = 0 := rd_zero _ N S E hrd.out hE
    obtain ⟨rfl, rfl⟩ := hS
    have hC1 := hC.drewN nd
    go_wp2
    go_ret2
    exact ⟨0, 0, E, rfl, hrd, hC1, grownBy_drewN _ nd _⟩

set_option maxHeartbeats 2000000 in
/-- Cursor.Text. -/
theorem ctext_any (C : Nat) (a : Option Addr) (cap : Nat) (l : List UInt8) (at' : Nat) (m : Int) (w : World) (hC : Cur w C a cap l at') (hm0 : -9223372036854775808 ≤ m) (hm1 : m ≤ 9223372036854775807) :
    Calls Tryd.prog 35 #[.pointer (some ⟨C, 0, none⟩), .int .i64 m] w fun e w' => ∃ t, ∃ E S : Nat, e = .returned (.tuple #[.string (str t), .int .i64 (E : Int)]) ∧ Hid ((t, E, S) = tx (l.drop at') m) ∧ Cur w' C a cap l (at' + S) ∧ w.grownBy w' (some C) := by
  obtain ⟨M, hM⟩ : ∃ M, max m 0 = M := ⟨_, rfl⟩
  go_enter Tryd.func35, Tryd.ntmps35
  go_wp2_with fail
  refine (unmade_made C a cap l at' w hC).mono ?_
  rintro e w0 ⟨rfl, rfl⟩
  go_wp2_with fail
  refine (left_any C a cap l at' _ hC).mono ?_
  rintro e w1 ⟨a1, nd, rfl, hB1, hba1, rfl⟩
  go_wp2_with fail
  refine (first_any a1 _ _ (l.drop at') _ hB1 (by rw [List.length_drop])).mono ?_
  rintro e w2 ⟨N, S, E, rfl, hrd, rfl⟩
  have hd := rd_le (l.drop at')
  rw [← hrd.out] at hd
  simp only [List.length_drop] at hd
  obtain ⟨hd1, hd2, hd3⟩ := hd
  have hsm := hC.small
  have hle := hC.le
  have hC1 := hC.drewN nd
  have r1 : (rd (l.drop at')).1 = N := by rw [← hrd.out]
  have r2 : (rd (l.drop at')).2.1 = S := by rw [← hrd.out]
  have r3 : (rd (l.drop at')).2.2 = E := by rw [← hrd.out]
  have hN' : (N : Int) ≤ 9223372036854775807 := by omega
  by_cases hE : E = 0
  · subst hE
    by_cases h1 : M < (N : Int)
    · have HX : Hid (([], 4, 0) = tx (l.drop at') m) := by show _ = _; rw [tx, r1, r2, r3, hM, if_neg (by simp), if_pos h1]
      clear r1 r2 r3 hrd
      go_wp2
      go_ret2
      exact ⟨[], 4, 0, rfl, HX, hC1, grownBy_drewN _ nd _⟩
    · by_cases h2 : (l.drop at').length - S < N
      · have HX : Hid (([], 2, 0) = tx (l.drop at') m) := by show _ = _; rw [tx, r1, r2, r3, hM, if_neg (by simp), if_neg h1, if_pos h2]
        rw [List.length_drop] at h2
        have h2' : (l.length : Int) - (at' : Int) - (S : Int) < (N : Int) := by omega
        have hsub : ((l.length - at' : Nat) : Int) = (l.length : Int) - (at' : Int) := by omega
        clear r1 r2 r3 hrd
        go_wp2
        go_ret2
        exact ⟨[], 2, 0, rfl, HX, hC1, grownBy_drewN _ nd _⟩
      · have HX : Hid ((((l.drop at').drop S).take N, 0, S + N) = tx (l.drop at') m) := by show _ = _; rw [tx, r1, r2, r3, hM, if_neg (by simp), if_neg h1, if_neg h2]
        rw [List.length_drop] at h2
        have h2' : ¬ ((l.length : Int) - (at' : Int) - (S : Int) < (N : Int)) := by omega
        have hsub : ((l.length - at' : Nat) : Int) = (l.length : Int) - (at' : Int) := by omega
        have hNs : N ≤ 100000000 := by omega
        have hSs : S ≤ 100000000 := by omega
        have h0 := hC1.c0
        have hf := hC1.fr 0
        have HM := hide (hC1.moved (at' + (S + N)) (by omega) ((at' : Int) + ((S : Int) + (N : Int))) (by omega))
        have hcap := hC.bs.le
        have hS1 : 1 ≤ S := hd3 rfl
        have hl1 : l ≠ [] := by intro e; subst e; simp at hd1; omega
        have hnC : blk a1 ≠ some C := by rw [hba1]; exact hC.ne hl1
        obtain ⟨b, off, rfl, _⟩ := hB1.row (by intro e; have := congrArg List.length e; simp at this; omega)
        have hBm := hide (hB1.grown (grownBy_set (w0.drewN nd) ⟨C, 0, none⟩ (.int .i64 ((at' : Int) + ((S : Int) + (N : Int))))) (.inr hnC))
        have hG := hide (grownBy_trans (grownBy_drewN w0 nd (some C)) (grownBy_set (w0.drewN nd) ⟨C, 0, none⟩ (.int .i64 ((at' : Int) + ((S : Int) + (N : Int))))))
        clear r1 r2 r3 hrd hnC hba1
        go_wp2_with fail
        refine (forward_any C (at' : Int) ((S : Int) + (N : Int)) _ h0 hf (by omega) (by omega) (by omega) (by omega)).mono ?_
        rintro e w3 ⟨rfl, hw3⟩
        have hBm2 := unhide hBm
        have hG2 := unhide hG
        have HM2 := unhide HM
        rw [← hw3] at hBm2 hG2 HM2
        clear hw3 h0 hf hC1 hB1 hBm hG HM
        obtain ⟨c', hc'⟩ : ∃ c', c' = cap - at' := ⟨_, rfl⟩
        have hc1 : S + N ≤ c' := by omega
        rw [← hc'] at hBm2
        have hcc := hide hc'
        have hcc2 : cap - at' = c' := hc'.symm
        clear hc'
        by_cases hcs : c' = S
        · have hN0 : N = 0 := by omega
          subst hN0
          subst hcs
          have k1 : ∀ c, (convert 23 9 (.slice (some ⟨b, off, none⟩) 0 c)).run Tryd.prog w3 = .ok (.string (str [])) w3 := fun c => run_str _ _ _ _ _ (fun h => absurd rfl h) rfl
          have HX2 : Hid (([], 0, c' + 0) = tx (l.drop at') m) := by show _ = _; rw [← HX.out]; simp
          clear HX
          go_wp2
          go_ret2
          exact ⟨[], 0, c' + 0, rfl, HX2, HM2, hG2⟩
        · obtain ⟨H, hH⟩ : ∃ H, H = S + N := ⟨_, rfl⟩
          have hHi : (S : Int) + (N : Int) = (H : Int) := by omega
          have hHN : H - S = N := by omega
          have hH1 : H ≤ c' := by omega
          have hH2 : S ≤ H := by omega
          have k1 : ∀ c, (convert 23 9 (.slice (some ⟨b, off + S, none⟩) N c)).run Tryd.prog w3 = .ok (.string (str (((l.drop at').drop S).take N))) w3 := fun c => run_str _ _ _ _ _ ((hBm2.row.drop S).take N) (by simp; omega)
          generalize ((l.drop at').drop S).take N = t at *
          have hHh := hide hH
          clear hH
          go_wp2
          go_ret2
          exact ⟨t, 0, S + N, rfl, HX, HM2, hG2⟩
  · have hne : ((E : Int) != 0) = true := by rw [bne_iff_ne]; omega
    have HX : Hid (([], E, 0) = tx (l.drop at') m) := by show _ = _; rw [tx, r3, if_pos hE]
    clear r1 r2 r3 hrd
    go_wp2
    go_ret2
    exact ⟨[], E, 0, rfl, HX, hC1, grownBy_drewN _ nd _⟩



#print axioms cnumber_any
#print axioms ctext_any
end Go.Proofs.YtoapkajlgnlecaaDoor
