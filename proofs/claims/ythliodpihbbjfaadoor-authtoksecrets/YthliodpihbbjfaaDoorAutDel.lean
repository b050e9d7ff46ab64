/-
  authtok: THE WALKS of slices.Clone and slices.Delete of secrets.
-/
import Derived.Test.YthliodpihbbjfaaDoorAutZ
import Derived.Lib.SliceRun
set_option linter.unusedVariables false
set_option maxRecDepth 1000000
namespace Go.Proofs.YthliodpihbbjfaaDoor
open Go.RowKit

theorem ownE_empty (w : World) (base : Nat) (hb : base ≤ w.heap.size) : OwnE (w.alloc (.cells #[] 52)) base (some ⟨w.heap.size, 0, none⟩) 0 [] :=
  World.ownsRow_made w #[] 0 hb (by unfold maxLen; omega) rfl
theorem eql_nilS (w : World) (a : Option Addr) (n c : Nat) : True := trivial

set_option maxHeartbeats 2000000 in
theorem cloneS_any (b off cp : Nat) (l : List Se) (w : World) (hsrc : ∀ j u, (ses l)[j]? = some u → w.cell? ⟨b, off + j, none⟩ = some u) (hpos : 0 < l.length) (hl : l.length ≤ 100) :
    Calls Tryd.prog 24 #[.slice (some ⟨b, off, none⟩) l.length cp] w fun e w' => ∃ g cap, e = .returned (.slice (some ⟨g, 0, none⟩) l.length cap) ∧ Hid (OwnE w' w.heap.size (some ⟨g, 0, none⟩) cap l) ∧ Hid (Below w.heap.size w w') := by
  have hq := fun (wx : World) (a : Option Addr) (n c : Nat) => Lib.run_eql_slice_nil (P := Tryd.prog) wx 22 52 a n c 0 0 Tryd.underlying22
  have HSR : Hid (∀ o j u, (ses l)[j]? = some u → (w.alloc o).cell? ⟨b, off + j, none⟩ = some u) := fun o j u hu => Lib.cell?_alloc_some o (hsrc j u hu)
  clear hsrc
  go_enter Tryd.func24, Tryd.ntmps24
  go_wp2_with (at_builtin; refine wp_appe _ rfl _ _ rfl w.heap.size (some ⟨w.heap.size, 0, none⟩) 0 [] rfl (ownE_empty w _ (Nat.le_refl _)) b off cp _ l rfl rfl (HSR.out _) hpos ?k1 ?k2 ?_)
  case k1 => simp; omega
  case k2 => simp
  intro g cap w2 ho hg hlies
  have HB : Hid (Below w.heap.size w w2) := ((Below.refl _ _).alloc (Nat.le_refl _) _).grown hg.out (by simp) (fun k hk => Nat.le_of_eq (by simpa [blk] using hk))
  clear hg hlies
  go_wp2
  go_ret
  exact ⟨g, cap, by simp, ho, HB⟩

theorem Tryd.zeroS (w : World) : (zeroValue 52).run Tryd.prog w = .ok (.agg #[.int .i64 0, .slice none 0 0]) w := by kernel_rfl
theorem clear_one (w : World) (ty : TypeId) (b o c : Nat) (hc : ∀ j, j < 2 → (w.cell? ⟨b, o + j, none⟩).isSome = true) (hf : ∀ j, j < 2 → w.frozen? ⟨b, o + j, none⟩ = false) :
    (Builtin.clear_ #[22] ty #[.slice (some ⟨b, o, none⟩) 1 c]).run Tryd.prog w = .ok (.tuple #[]) (w.setCells b o [.int .i64 0, .slice none 0 0]) := by
  have hzc : (Builtin.zeroCells (Value.agg #[.int .i64 0, .slice none 0 0]).cells 1).toList = [.int .i64 0, .slice none 0 0] := by kernel_rfl
  have hst := run_storeCells_cells (P := Tryd.prog) b o [.int .i64 0, .slice none 0 0] 0 w (by simpa using hc) (by simpa using hf) (by intro v hv'; simp at hv'; rcases hv' with rfl | rfl <;> rfl)
  simp only [Nat.add_zero] at hst
  simp [Builtin.clear_, run_underlying Tryd.underlying22, hzc, hst]
theorem setCells_grown (b : Nat) : ∀ (vs : List Value) (o : Nat) (w : World), w.grownBy (w.setCells b o vs) (some b)
  | [], _, w => ⟨rfl, rfl, rfl, Nat.le_refl _, fun _ _ _ => rfl⟩
  | v :: r, o, w => by
    rw [World.setCells]
    exact grownBy_trans (grownBy_set w ⟨b, o, none⟩ v) (setCells_grown b r (o + 1) _)
theorem cutS_tail (g N cap E : Nat) (h1 : E ≤ N) : ∃ A : Addr, (∀ w, (Instr.slice 22 (.slice (some ⟨g, 0, none⟩) N cap) (some (.int .i64 (E : Int))) none none).run Tryd.prog w = .ok (.slice (some A) (N - E) (cap - E)) w) ∧ (¬ cap = E → A = ⟨g, E * 2, none⟩) := by
  refine ⟨if cap = E then ⟨g, 0, none⟩ else ⟨g, E * 2, none⟩, fun w => ?_, fun h => if_neg h⟩
  rw [run_slice_l (P := Tryd.prog) w 22 _ N cap Tryd.elemS .i64 (E : Int) (by omega) (by omega), Tryd.sizeS]
  simp only [Result.andThen, sliced, Int.toNat_natCast]
  by_cases h : cap = E
  · simp [h]
  · simp [h, addr_add]
theorem cutS_mid (g N cap E H : Nat) (h1 : E ≤ H) (h2 : H ≤ cap) (h3 : ¬ cap = E) (w : World) : (Instr.slice 22 (.slice (some ⟨g, 0, none⟩) N cap) (some (.int .i64 (E : Int))) (some (.int .i64 (H : Int))) none).run Tryd.prog w = .ok (.slice (some ⟨g, E * 2, none⟩) (H - E) (cap - E)) w := by
  rw [run_slice_lh (P := Tryd.prog) w 22 _ N cap Tryd.elemS .i64 .i64 (E : Int) (H : Int) (by omega) (by omega) (by omega), Tryd.sizeS]
  simp only [Result.andThen, sliced, Int.toNat_natCast, if_neg h3, Option.map_some, addr_add, Nat.zero_add]

set_option maxHeartbeats 8000000 in
theorem deleteS_any (g cap : Nat) (l : List Se) (i base : Nat) (w : World) (h : OwnE w base (some ⟨g, 0, none⟩) cap l) (hi : i < l.length) (hl : l.length ≤ 100) :
    Calls Tryd.prog 23 #[.slice (some ⟨g, 0, none⟩) l.length cap, .int .i64 (i : Int), .int .i64 ((i : Int) + 1)] w fun e w' => e = .returned (.slice (some ⟨g, 0, none⟩) (l.length - 1) cap) ∧ Hid (w.grownBy w' (some g)) ∧ Hid (∀ j u, (ses (l.eraseIdx i))[j]? = some u → w'.cell? ⟨g, j, none⟩ = some u) := by
  rcases h.cases with ⟨h1, _⟩ | ⟨g', cur, e, hb, hg, hle, hm, hs, ht⟩
  · cases h1
  obtain rfl : g = g' := by simpa using e
  unfold maxLen at hm
  obtain ⟨N, hN⟩ : ∃ N, l.length = N + 1 := ⟨l.length - 1, by omega⟩
  have hcell : ∀ j, j < l.length * 2 → w.cell? ⟨g, j, none⟩ = (ses l)[j]? := by
    intro j hj
    rw [cell_of_row w g j cur _ (0, 0) hg, ← ht, List.getElem?_take, if_pos hj]
    simp
  have hfz : ∀ j, w.frozen? ⟨g, j, none⟩ = false := fun j => frozen_of_row w g j _ _ hg
  have hsl : (ses l).length = l.length * 2 := ses_length l
  obtain ⟨news, hnews⟩ : ∃ news, news = ses (l.drop (i + 1)) := ⟨_, rfl⟩
  have hnl : news.length = (N - i) * 2 := by rw [hnews, ses_length, List.length_drop]; omega
  have hng : ∀ j, j < news.length → news[j]? = (ses l)[(i + 1) * 2 + j]? := by
    intro j hj
    have e : ses l = ses (l.take (i + 1)) ++ news := by rw [hnews, ← ses_append, List.take_append_drop]
    rw [e, List.getElem?_append_right (by rw [ses_length, List.length_take]; omega)]
    congr 1
    rw [ses_length, List.length_take]
    omega
  obtain ⟨A, hA, hA2⟩ := cutS_tail g (N + 1) cap (i + 1) (by omega)
  have HSRC : Hid (∀ j u, news[j]? = some u → w.drew.cell? (A.add j) = some u) := by
    intro j u hu
    have hj := (List.getElem?_eq_some_iff.1 hu).1
    rw [hA2 (by omega), addr_add]
    show w.cell? _ = _
    rw [hcell _ (by omega), ← hng j hj]
    exact hu
  have HONE : Hid (∀ u ∈ news, u.oneCell' = true) := by rw [hnews]; exact ses_one _
  have HSP : Hid (∀ j, j < news.length → (w.drew.cell? ⟨g, 0 + i * 2 + j, none⟩).isSome = true ∧ w.drew.frozen? ⟨g, 0 + i * 2 + j, none⟩ = false) := by
    intro j hj
    refine ⟨?_, hfz _⟩
    show (w.cell? _).isSome = true
    rw [hcell _ (by omega), List.getElem?_eq_getElem (by omega)]
    rfl
  obtain ⟨W1, hW1⟩ : ∃ W1, w.drew.setCells g (0 + i * 2) news = W1 := ⟨_, rfl⟩
  have hW1in : ∀ j, j < news.length → W1.cell? ⟨g, 0 + i * 2 + j, none⟩ = news[j]? := by
    intro j hj
    rw [← hW1, World.cell?_setCells_in g news (0 + i * 2) w.drew (fun q hq => (HSP.out q hq).1) j hj, List.getElem?_eq_getElem hj]
  have hW1out : ∀ j, (j < i * 2 ∨ i * 2 + news.length ≤ j) → W1.cell? ⟨g, j, none⟩ = w.cell? ⟨g, j, none⟩ := by
    intro j hj
    rw [← hW1, World.cell?_setCells_out g news (0 + i * 2) w.drew _ (fun _ _ => by simp only; omega)]
    rfl
  have hW1f : ∀ j, W1.frozen? ⟨g, j, none⟩ = false := by
    intro j
    rw [← hW1, World.frozen?_setCells]
    exact hfz j
  have HG1 : Hid (w.grownBy W1 (some g)) := by
    rw [← hW1]
    exact grownBy_trans (b := w.drew) ⟨rfl, rfl, rfl, Nat.le_refl _, fun _ _ _ => rfl⟩ (setCells_grown g news _ _)
  have hcl : ∀ ty, (Builtin.clear_ #[22] ty #[.slice (some ⟨g, N * 2, none⟩) 1 (cap - N)]).run Tryd.prog W1 = .ok (.tuple #[]) (W1.setCells g (N * 2) [.int .i64 0, .slice none 0 0]) := fun ty => clear_one W1 ty g (N * 2) (cap - N) (fun j hj => by
    rw [hW1out _ (.inr (by omega)), hcell _ (by omega), List.getElem?_eq_getElem (by omega)]
    rfl) (fun j hj => hW1f _)
  have HFIN : Hid (∀ j u, (ses (l.eraseIdx i))[j]? = some u → (W1.setCells g (N * 2) [.int .i64 0, .slice none 0 0]).cell? ⟨g, j, none⟩ = some u) := by
    intro j u hu
    have hj : j < N * 2 := by
      have := (List.getElem?_eq_some_iff.1 hu).1
      rw [ses_length, List.length_eraseIdx_of_lt hi] at this
      omega
    rw [World.cell?_setCells_out g _ (N * 2) W1 _ (fun _ _ => .inl hj)]
    rw [List.eraseIdx_eq_take_drop_succ, ses_append, ← hnews] at hu
    have htl : (ses (l.take i)).length = i * 2 := by rw [ses_length, List.length_take]; omega
    rcases Nat.lt_or_ge j (i * 2) with h | h
    · rw [hW1out j (.inl h), hcell j (by omega)]
      rw [List.getElem?_append_left (by omega)] at hu
      have e : ses l = ses (l.take i) ++ ses (l.drop i) := by rw [← ses_append, List.take_append_drop]
      rw [e, List.getElem?_append_left (by omega)]
      exact hu
    · rw [List.getElem?_append_right (by omega), htl] at hu
      have := hW1in (j - i * 2) (by omega)
      rw [show 0 + i * 2 + (j - i * 2) = j by omega] at this
      rw [this]
      exact hu
  have HG2 : Hid (w.grownBy (W1.setCells g (N * 2) [.int .i64 0, .slice none 0 0]) (some g)) := grownBy_trans HG1.out (setCells_grown g _ _ _)
  have HW := hide hW1
  have HNL := hide hnl
  have q0 := fun wx => cut_secs g 0 (N + 1) cap i (i : Int) wx rfl (by omega)
  have q1 : ∀ wx, (Instr.slice 22 (.slice (some ⟨g, 0, none⟩) (N + 1) cap) (some (.int .i64 ((i : Int) + 1))) none none).run Tryd.prog wx = .ok (.slice (some A) (N - i) (cap - (i + 1))) wx := by
    intro wx
    have := hA wx
    rw [show ((i + 1 : Nat) : Int) = (i : Int) + 1 by simp, show N + 1 - (i + 1) = N - i by omega] at this
    exact this
  have q2 : ∀ wx, (Instr.slice 22 (.slice (some ⟨g, 0, none⟩) N cap) (some (.int .i64 (N : Int))) (some (.int .i64 ((N : Int) + 1))) none).run Tryd.prog wx = .ok (.slice (some ⟨g, N * 2, none⟩) 1 (cap - N)) wx := by
    intro wx
    have := cutS_mid g N cap N (N + 1) (by omega) (by omega) (by omega) wx
    rw [show ((N + 1 : Nat) : Int) = (N : Int) + 1 by simp, show N + 1 - N = 1 by omega] at this
    exact this
  rw [hN] at hle ⊢
  have hNc : N + 1 ≤ cap := hle
  clear hcell hfz hsl hnews hng hA hA2 hW1in hW1out hW1f hW1 HG1 h e hb hg hs ht hnl
  have hne : ((i : Int) == (i : Int) + 1) = false := by simp; omega
  have hiN : i ≤ N := by omega
  have r1 : (i : Int) + 1 ≤ ((N + 1 : Nat) : Int) := by omega
  have r2 : ((N + 1 : Nat) : Int) ≤ (cap : Int) := by omega
  have r3 : (i : Int) + 1 ≤ (N : Int) + 1 := by omega
  have r4 : (N : Int) + 1 ≤ (cap : Int) := by omega
  obtain ⟨i0, hi0, hz0, hz1, hz2⟩ := info_parts Tryd.infoE
  have HI0 := hide (And.intro hi0 hz1)
  clear hi0 hz0 hz1 hz2 hi hl hN
  go_enter Tryd.func23, Tryd.ntmps23
  go_wp2
  go_region_law (refine step_append_room rfl _ _ _ rfl 52 i0 2 Tryd.underlying22 HI0.out.1 HI0.out.2 g 0 i cap rfl A (N - i) (cap - (i + 1)) news rfl HNL.out HSRC.out HONE.out (by omega) HSP.out ?_; rw [HW.out])
  all_goals
    go_wp2
    go_ret
    exact ⟨by simp, HG2, HFIN⟩
#print axioms deleteS_any
end Go.Proofs.YthliodpihbbjfaaDoor
