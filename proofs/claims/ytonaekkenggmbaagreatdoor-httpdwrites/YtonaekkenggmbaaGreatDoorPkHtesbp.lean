/-
  httpd's reference: Parse.
-/
import Derived.Test.YtonaekkenggmbaaGreatDoorPkHtesbo
import Derived.Test.YtonaekkenggmbaaGreatDoorPkHtesbe
section
set_option linter.unusedVariables false
set_option maxRecDepth 1000000
namespace Go.Proofs.YtonaekkenggmbaaGreatDoor
open Go.RowKit

theorem set4j (w : World) (R : Nat) (a0 a1 a2 a3 v0 v1 v2 v3 : Value) (T : TypeId) (h : w.heap[R]? = some (.cells #[a0, a1, a2, a3] T (0, 0))) :
    ((((w.setCell ⟨R, 0, none⟩ v0).setCell ⟨R, 1, none⟩ v1).setCell ⟨R, 2, none⟩ v2).setCell ⟨R, 3, none⟩ v3).heap[R]? = some (.cells #[v0, v1, v2, v3] T (0, 0)) ∧ (∀ k, k ≠ R → ((((w.setCell ⟨R, 0, none⟩ v0).setCell ⟨R, 1, none⟩ v1).setCell ⟨R, 2, none⟩ v2).setCell ⟨R, 3, none⟩ v3).heap[k]? = w.heap[k]?) ∧ (∀ (u : World) (B : Nat), Below B u w → B ≤ R → Below B u ((((w.setCell ⟨R, 0, none⟩ v0).setCell ⟨R, 1, none⟩ v1).setCell ⟨R, 2, none⟩ v2).setCell ⟨R, 3, none⟩ v3)) := by
  have hne : ∀ k, k ≠ R → ((((w.setCell ⟨R, 0, none⟩ v0).setCell ⟨R, 1, none⟩ v1).setCell ⟨R, 2, none⟩ v2).setCell ⟨R, 3, none⟩ v3).heap[k]? = w.heap[k]? := fun k hk => by
    rw [Below.heap_setCell _ ⟨R, 3, none⟩ _ k hk, Below.heap_setCell _ ⟨R, 2, none⟩ _ k hk, Below.heap_setCell _ ⟨R, 1, none⟩ _ k hk, Below.heap_setCell _ ⟨R, 0, none⟩ _ k hk]
  refine ⟨by rw [heap_setCell_same _ _ 3 _ _ _ (heap_setCell_same _ _ 2 _ _ _ (heap_setCell_same _ _ 1 _ _ _ (heap_setCell_same _ _ 0 _ _ _ h)))]; rfl, hne, fun u B hb hB => ⟨hb.os, hb.tape, hb.output, by simp [World.setCell]; exact hb.size, fun k hk => (hne k (by omega)).trans (hb.block k hk)⟩⟩
theorem splK_len (sep : List UInt8) : ∀ (k : Nat) (s : List UInt8), (Lib.splitK sep 0 k s).length ≤ k + 1
  | 0, s => by simp [Lib.splitK]
  | k + 1, s => by
    simp only [Lib.splitK]
    split
    · simp
    · have := splK_len sep k (s.drop ((Lib.index s sep).toNat + sep.length))
      simp only [List.length_cons]; omega
/-- What the reference says of bytes. -/
def rp3 (f : List UInt8 × List UInt8 × Nat) (H : List Hd) (B : List UInt8 × Nat × Nat) (n : Nat) : Rq × Nat × Nat := if B.2.2 ≠ 0 then (Rq.nil, 0, B.2.2) else (⟨f.1, f.2.1, H, B.1⟩, n + 4 + B.2.1, 0)
def rp2 (L : List (List UInt8)) (s : List UInt8) (n : Nat) : Rq × Nat × Nat :=
  if (lnM (L.getD 0 [])).2.2 ≠ 0 then (Rq.nil, 0, (lnM (L.getD 0 [])).2.2) else if (fr8 (L.drop 1) []).2 ≠ 0 then (Rq.nil, 0, (fr8 (L.drop 1) []).2) else rp3 (lnM (L.getD 0 [])) (fr8 (L.drop 1) []).1 (bdM (fr8 (L.drop 1) []).1 (s.drop (n + 4))) n
def rp1 (s : List UInt8) (n : Nat) : Rq × Nat × Nat := if ((Lib.split (s.take n) [13, 10]).any bad) = true then (Rq.nil, 0, 400) else rp2 (Lib.split (s.take n) [13, 10]) s n
def rpM (s : List UInt8) : Rq × Nat × Nat := if 8192 < whM hend s ∧ (whM hend s < s.length ∨ 8196 ≤ whM hend s) then (Rq.nil, 0, 431) else if whM hend s = s.length then (Rq.nil, 0, 1) else rp1 s (whM hend s)
theorem chR_le (s : List UInt8) : (chR s).2.1 ≤ s.length := by
  unfold chR
  split
  · exact runM_le _ _ _ _
  · exact Nat.zero_le _
theorem bdM_le (H : List Hd) (s : List UInt8) : (bdM H s).2.1 ≤ s.length := by
  unfold bdM bd8
  split
  · exact Nat.zero_le _
  · split
    · exact chR_le s
    · split
      · exact Nat.zero_le _
      · simp only; omega
theorem bs_samej {w w' : World} {a : Option Addr} {cap : Nat} {l : List UInt8} (h : Bs w a cap l) (e : ∀ k, blk a = some k → w'.heap[k]? = w.heap[k]?) : Bs w' a cap l := by
  refine ⟨fun hne => ?_, h.le, h.most, h.nz⟩
  obtain ⟨b, off, rfl, hc⟩ := h.row hne
  refine ⟨b, off, rfl, fun i hi => ?_⟩
  rw [← hc i hi]
  simp only [World.cell?, e b rfl]

theorem bad_of (x : List UInt8) : bad x = (x.contains 13 || x.contains 10) := by
  rw [Bool.eq_iff_iff]
  simp only [bad, List.any_eq_true, Bool.or_eq_true, beq_iff_eq, List.contains_iff_mem]
  constructor
  · rintro ⟨c, hc, rfl | rfl⟩
    · exact .inl hc
    · exact .inr hc
  · rintro (h | h)
    · exact ⟨13, h, .inl rfl⟩
    · exact ⟨10, h, .inr rfl⟩
theorem fr8_lim : ∀ (L : List (List UInt8)) (acc : List Hd), acc.length ≤ 32 → (fr8 L acc).1.length ≤ 32
  | [], acc, h => h
  | l :: L, acc, h => by
    unfold fr8
    split
    · simp
    · split
      · exact fr8_lim L _ (by simp; omega)
      · simp
theorem fd8_len (s : List UInt8) (h : Hd) (e : fd8 s = some h) : h.2.length ≤ s.length := by
  unfold fd8 at e
  split at e
  · cases e
  · cases e
    refine Nat.le_trans (trm_len8 _) ?_
    simp
theorem fr8_len (N : Nat) : ∀ (L : List (List UInt8)) (acc : List Hd), (∀ x ∈ L, x.length ≤ N) → (∀ h ∈ acc, h.2.length ≤ N) → ∀ h ∈ (fr8 L acc).1, h.2.length ≤ N
  | [], acc, _, ha => ha
  | l :: L, acc, hL, ha => by
    unfold fr8
    split
    · intro h hh; simp at hh
    · split
      · rename_i h0 he
        refine fr8_len N L _ (fun x hx => hL x (List.mem_cons_of_mem _ hx)) (fun h hh => ?_)
        rcases List.mem_append.1 hh with h1 | h1
        · exact ha h h1
        · rw [List.mem_singleton] at h1
          rw [h1]
          exact Nat.le_trans (fd8_len l h0 he) (hL l List.mem_cons_self)
      · intro h hh; simp at hh
set_option maxHeartbeats 4000000 in
theorem rparse_new (x : Option Addr) (cx : Nat) (s : List UInt8) (w : World) (hb : Bs w x cx s) (hs : s.length ≤ 140737488353280) :
    Calls Tryz.prog 46 #[.slice x s.length cx] w fun e w' => ∃ hp hc bp bc, e = .returned (.tuple #[.agg #[.string (str (rpM s).1.m), .string (str (rpM s).1.p), .slice hp (rpM s).1.h.length hc, .slice bp (rpM s).1.b.length bc], .int .i64 ((rpM s).2.1 : Int), .int .i64 ((rpM s).2.2 : Int)]) ∧ Hid ((HdR w' hp (rpM s).1.h ∧ Bs w' bp bc (rpM s).1.b) ∧ (∀ k, blk hp = some k → w.heap.size ≤ k) ∧ ∀ k, blk bp = some k → w.heap.size ≤ k) ∧ Hid (Below w.heap.size w w') := by
  obtain ⟨V, hV⟩ : ∃ V, V = w.alloc (.cells #[.string ⟨#[]⟩, .string ⟨#[]⟩, .slice none 0 0, .slice none 0 0] 39) := ⟨_, rfl⟩
  have hbV : Below w.heap.size w V := by rw [hV]; exact (Below.refl _ _).alloc (Nat.le_refl _) _
  have hzV : w.heap.size < V.heap.size := by rw [hV]; simp
  have hrV : V.heap[w.heap.size]? = some (.cells #[.string ⟨#[]⟩, .string ⟨#[]⟩, .slice none 0 0, .slice none 0 0] 39 (0, 0)) := by rw [hV]; exact heap_alloc_new w _
  have kc : (convert 28 9 (.slice x s.length cx)).run Tryz.prog V = .ok (.string (str s)) V := run_str _ _ _ _ _ (hb.below hbV (Nat.le_refl _)).row rfl
  have z : (str s).size = s.length := str_size s
  obtain ⟨X, hX⟩ : ∃ X, X = rpM s := ⟨_, rfl⟩
  rw [← hX]
  unfold rpM at hX
  have HW : Hid (Calls Tryz.prog 53 #[.string ⟨#[13, 10, 13, 10]⟩, .string (str s)] V fun e w' => e = .returned (.int .i64 (whM hend s : Int)) ∧ w' = V) := where_any hend s V (by omega) (by decide) (by decide)
  have hnl := whM_le hend s
  have HRM : Hid (whM hend s ≠ s.length → whM hend s + 4 ≤ s.length) := fun h => by
    unfold whM at h ⊢
    split
    · have h3 := Lib.index_room s hend (by assumption)
      have h4 : hend.length = 4 := rfl
      rw [h4] at h3
      omega
    · rename_i h2
      rw [if_neg h2] at h
      exact absurd rfl h
  generalize whM hend s = n at *
  have HX := hide hX
  have HBV : Hid (Below w.heap.size w V ∧ V.heap[w.heap.size]? = some (.cells #[.string ⟨#[]⟩, .string ⟨#[]⟩, .slice none 0 0, .slice none 0 0] 39 (0, 0))) := ⟨hbV, hrV⟩
  have HZV := hide hzV
  clear hX hbV hzV hrV hb
  go_enter Tryz.func46, Tryz.ntmps46
  go_upto_region 1 with fail
  rw [← hV]
  clear hV
  go_wp2_with fail
  refine (unhide HW).mono ?_
  rintro e V ⟨rfl, rfl⟩
  clear HW
  by_cases h431 : 8192 < n ∧ (n < s.length ∨ 8196 ≤ n)
  · have HX2 : Hid (X = (Rq.nil, 0, 431)) := by show _ = _; rw [unhide HX, if_pos h431]
    obtain ⟨h1, h2⟩ := h431
    have f1 : (8192 : Int) < (n : Int) := by omega
    by_cases h3 : n < s.length
    · have f2 : (n : Int) < (s.length : Int) := by omega
      have hrR := (unhide HBV).2
      have r0 : V.cell? ⟨w.heap.size, 0, none⟩ = some (.string ⟨#[]⟩) := cell_of_row _ _ _ _ _ _ (hrR)
      have r1 : V.cell? ⟨w.heap.size, 1, none⟩ = some (.string ⟨#[]⟩) := cell_of_row _ _ _ _ _ _ (hrR)
      have r2 : V.cell? ⟨w.heap.size, 2, none⟩ = some (.slice none 0 0) := cell_of_row _ _ _ _ _ _ (hrR)
      have r3 : V.cell? ⟨w.heap.size, 3, none⟩ = some (.slice none 0 0) := cell_of_row _ _ _ _ _ _ (hrR)
      have z0 := frozen_of_row V w.heap.size 0 _ _ (hrR)
      have z1 := frozen_of_row V w.heap.size 1 _ _ (hrR)
      have z2 := frozen_of_row V w.heap.size 2 _ _ (hrR)
      have z3 := frozen_of_row V w.heap.size 3 _ _ (hrR)
      obtain ⟨W, hW⟩ : ∃ W, W = (((V.setCell ⟨w.heap.size, 0, none⟩ (.string ⟨#[]⟩)).setCell ⟨w.heap.size, 1, none⟩ (.string ⟨#[]⟩)).setCell ⟨w.heap.size, 2, none⟩ (.slice none 0 0)).setCell ⟨w.heap.size, 3, none⟩ (.slice none 0 0) := ⟨_, rfl⟩
      obtain ⟨s1, s2, s3⟩ := set4j V w.heap.size _ _ _ _ (.string ⟨#[]⟩) (.string ⟨#[]⟩) (.slice none 0 0) (.slice none 0 0) _ hrR
      rw [← hW] at s1 s2 s3
      have q0 : W.cell? ⟨w.heap.size, 0, none⟩ = some (.string ⟨#[]⟩) := cell_of_row _ _ _ _ _ _ s1
      have q1 : W.cell? ⟨w.heap.size, 1, none⟩ = some (.string ⟨#[]⟩) := cell_of_row _ _ _ _ _ _ s1
      have q2 : W.cell? ⟨w.heap.size, 2, none⟩ = some (.slice none 0 0) := cell_of_row _ _ _ _ _ _ s1
      have q3 : W.cell? ⟨w.heap.size, 3, none⟩ = some (.slice none 0 0) := cell_of_row _ _ _ _ _ _ s1
      have HBW : Hid (Below w.heap.size w W) := s3 w _ (unhide HBV).1 (Nat.le_refl _)
      clear hrR s1 s2 s3
      go_wp2
      rw [← hW]
      refine bodyPost_ret (v := .tuple #[.agg #[.string ⟨#[]⟩, .string ⟨#[]⟩, .slice none 0 0, .slice none 0 0], .int .i64 0, .int .i64 431]) (by simp [results, Tryz.results46, go_sem, q0, q1, q2, q3]) rfl ⟨none, 0, none, 0, (by rw [unhide HX2]; rfl), (by rw [unhide HX2]; exact ⟨⟨⟨fun h => absurd rfl h, Nat.zero_le _⟩, bs_none _⟩, fun k hk => by simp [blk] at hk, fun k hk => by simp [blk] at hk⟩), HBW⟩
    · have f2 : ¬ (n : Int) < (s.length : Int) := by omega
      have f3 : (8196 : Int) ≤ (n : Int) := by omega
      have hrR := (unhide HBV).2
      have r0 : V.cell? ⟨w.heap.size, 0, none⟩ = some (.string ⟨#[]⟩) := cell_of_row _ _ _ _ _ _ (hrR)
      have r1 : V.cell? ⟨w.heap.size, 1, none⟩ = some (.string ⟨#[]⟩) := cell_of_row _ _ _ _ _ _ (hrR)
      have r2 : V.cell? ⟨w.heap.size, 2, none⟩ = some (.slice none 0 0) := cell_of_row _ _ _ _ _ _ (hrR)
      have r3 : V.cell? ⟨w.heap.size, 3, none⟩ = some (.slice none 0 0) := cell_of_row _ _ _ _ _ _ (hrR)
      have z0 := frozen_of_row V w.heap.size 0 _ _ (hrR)
      have z1 := frozen_of_row V w.heap.size 1 _ _ (hrR)
      have z2 := frozen_of_row V w.heap.size 2 _ _ (hrR)
      have z3 := frozen_of_row V w.heap.size 3 _ _ (hrR)
      obtain ⟨W, hW⟩ : ∃ W, W = (((V.setCell ⟨w.heap.size, 0, none⟩ (.string ⟨#[]⟩)).setCell ⟨w.heap.size, 1, none⟩ (.string ⟨#[]⟩)).setCell ⟨w.heap.size, 2, none⟩ (.slice none 0 0)).setCell ⟨w.heap.size, 3, none⟩ (.slice none 0 0) := ⟨_, rfl⟩
      obtain ⟨s1, s2, s3⟩ := set4j V w.heap.size _ _ _ _ (.string ⟨#[]⟩) (.string ⟨#[]⟩) (.slice none 0 0) (.slice none 0 0) _ hrR
      rw [← hW] at s1 s2 s3
      have q0 : W.cell? ⟨w.heap.size, 0, none⟩ = some (.string ⟨#[]⟩) := cell_of_row _ _ _ _ _ _ s1
      have q1 : W.cell? ⟨w.heap.size, 1, none⟩ = some (.string ⟨#[]⟩) := cell_of_row _ _ _ _ _ _ s1
      have q2 : W.cell? ⟨w.heap.size, 2, none⟩ = some (.slice none 0 0) := cell_of_row _ _ _ _ _ _ s1
      have q3 : W.cell? ⟨w.heap.size, 3, none⟩ = some (.slice none 0 0) := cell_of_row _ _ _ _ _ _ s1
      have HBW : Hid (Below w.heap.size w W) := s3 w _ (unhide HBV).1 (Nat.le_refl _)
      clear hrR s1 s2 s3
      go_wp2
      rw [← hW]
      refine bodyPost_ret (v := .tuple #[.agg #[.string ⟨#[]⟩, .string ⟨#[]⟩, .slice none 0 0, .slice none 0 0], .int .i64 0, .int .i64 431]) (by simp [results, Tryz.results46, go_sem, q0, q1, q2, q3]) rfl ⟨none, 0, none, 0, (by rw [unhide HX2]; rfl), (by rw [unhide HX2]; exact ⟨⟨⟨fun h => absurd rfl h, Nat.zero_le _⟩, bs_none _⟩, fun k hk => by simp [blk] at hk, fun k hk => by simp [blk] at hk⟩), HBW⟩
  · have hX1 := unhide HX
    rw [if_neg h431] at hX1
    have fg : ¬ (8192 : Int) < (n : Int) ∨ ((8192 : Int) < (n : Int) ∧ ¬ (n : Int) < (s.length : Int) ∧ ¬ (8196 : Int) ≤ (n : Int)) := by omega
    by_cases hnn : n = s.length
    · have HX2 : Hid (X = (Rq.nil, 0, 1)) := by show _ = _; rw [hX1, if_pos hnn]
      have fe : ((n : Int) == (s.length : Int)) = true := by rw [beq_iff_eq]; omega
      have hn8 : n < 8196 := by omega
      clear hX1 HX h431
      rcases fg with f1 | ⟨f1, f2, f3⟩
      · have hrR := (unhide HBV).2
        have r0 : V.cell? ⟨w.heap.size, 0, none⟩ = some (.string ⟨#[]⟩) := cell_of_row _ _ _ _ _ _ (hrR)
        have r1 : V.cell? ⟨w.heap.size, 1, none⟩ = some (.string ⟨#[]⟩) := cell_of_row _ _ _ _ _ _ (hrR)
        have r2 : V.cell? ⟨w.heap.size, 2, none⟩ = some (.slice none 0 0) := cell_of_row _ _ _ _ _ _ (hrR)
        have r3 : V.cell? ⟨w.heap.size, 3, none⟩ = some (.slice none 0 0) := cell_of_row _ _ _ _ _ _ (hrR)
        have z0 := frozen_of_row V w.heap.size 0 _ _ (hrR)
        have z1 := frozen_of_row V w.heap.size 1 _ _ (hrR)
        have z2 := frozen_of_row V w.heap.size 2 _ _ (hrR)
        have z3 := frozen_of_row V w.heap.size 3 _ _ (hrR)
        obtain ⟨W, hW⟩ : ∃ W, W = (((V.setCell ⟨w.heap.size, 0, none⟩ (.string ⟨#[]⟩)).setCell ⟨w.heap.size, 1, none⟩ (.string ⟨#[]⟩)).setCell ⟨w.heap.size, 2, none⟩ (.slice none 0 0)).setCell ⟨w.heap.size, 3, none⟩ (.slice none 0 0) := ⟨_, rfl⟩
        obtain ⟨s1, s2, s3⟩ := set4j V w.heap.size _ _ _ _ (.string ⟨#[]⟩) (.string ⟨#[]⟩) (.slice none 0 0) (.slice none 0 0) _ hrR
        rw [← hW] at s1 s2 s3
        have q0 : W.cell? ⟨w.heap.size, 0, none⟩ = some (.string ⟨#[]⟩) := cell_of_row _ _ _ _ _ _ s1
        have q1 : W.cell? ⟨w.heap.size, 1, none⟩ = some (.string ⟨#[]⟩) := cell_of_row _ _ _ _ _ _ s1
        have q2 : W.cell? ⟨w.heap.size, 2, none⟩ = some (.slice none 0 0) := cell_of_row _ _ _ _ _ _ s1
        have q3 : W.cell? ⟨w.heap.size, 3, none⟩ = some (.slice none 0 0) := cell_of_row _ _ _ _ _ _ s1
        have HBW : Hid (Below w.heap.size w W) := s3 w _ (unhide HBV).1 (Nat.le_refl _)
        clear hrR s1 s2 s3
        go_wp2
        rw [← hW]
        refine bodyPost_ret (v := .tuple #[.agg #[.string ⟨#[]⟩, .string ⟨#[]⟩, .slice none 0 0, .slice none 0 0], .int .i64 0, .int .i64 1]) (by simp [results, Tryz.results46, go_sem, q0, q1, q2, q3]) rfl ⟨none, 0, none, 0, (by rw [unhide HX2]; rfl), (by rw [unhide HX2]; exact ⟨⟨⟨fun h => absurd rfl h, Nat.zero_le _⟩, bs_none _⟩, fun k hk => by simp [blk] at hk, fun k hk => by simp [blk] at hk⟩), HBW⟩
      · have hrR := (unhide HBV).2
        have r0 : V.cell? ⟨w.heap.size, 0, none⟩ = some (.string ⟨#[]⟩) := cell_of_row _ _ _ _ _ _ (hrR)
        have r1 : V.cell? ⟨w.heap.size, 1, none⟩ = some (.string ⟨#[]⟩) := cell_of_row _ _ _ _ _ _ (hrR)
        have r2 : V.cell? ⟨w.heap.size, 2, none⟩ = some (.slice none 0 0) := cell_of_row _ _ _ _ _ _ (hrR)
        have r3 : V.cell? ⟨w.heap.size, 3, none⟩ = some (.slice none 0 0) := cell_of_row _ _ _ _ _ _ (hrR)
        have z0 := frozen_of_row V w.heap.size 0 _ _ (hrR)
        have z1 := frozen_of_row V w.heap.size 1 _ _ (hrR)
        have z2 := frozen_of_row V w.heap.size 2 _ _ (hrR)
        have z3 := frozen_of_row V w.heap.size 3 _ _ (hrR)
        obtain ⟨W, hW⟩ : ∃ W, W = (((V.setCell ⟨w.heap.size, 0, none⟩ (.string ⟨#[]⟩)).setCell ⟨w.heap.size, 1, none⟩ (.string ⟨#[]⟩)).setCell ⟨w.heap.size, 2, none⟩ (.slice none 0 0)).setCell ⟨w.heap.size, 3, none⟩ (.slice none 0 0) := ⟨_, rfl⟩
        obtain ⟨s1, s2, s3⟩ := set4j V w.heap.size _ _ _ _ (.string ⟨#[]⟩) (.string ⟨#[]⟩) (.slice none 0 0) (.slice none 0 0) _ hrR
        rw [← hW] at s1 s2 s3
        have q0 : W.cell? ⟨w.heap.size, 0, none⟩ = some (.string ⟨#[]⟩) := cell_of_row _ _ _ _ _ _ s1
        have q1 : W.cell? ⟨w.heap.size, 1, none⟩ = some (.string ⟨#[]⟩) := cell_of_row _ _ _ _ _ _ s1
        have q2 : W.cell? ⟨w.heap.size, 2, none⟩ = some (.slice none 0 0) := cell_of_row _ _ _ _ _ _ s1
        have q3 : W.cell? ⟨w.heap.size, 3, none⟩ = some (.slice none 0 0) := cell_of_row _ _ _ _ _ _ s1
        have HBW : Hid (Below w.heap.size w W) := s3 w _ (unhide HBV).1 (Nat.le_refl _)
        clear hrR s1 s2 s3
        go_wp2
        rw [← hW]
        refine bodyPost_ret (v := .tuple #[.agg #[.string ⟨#[]⟩, .string ⟨#[]⟩, .slice none 0 0, .slice none 0 0], .int .i64 0, .int .i64 1]) (by simp [results, Tryz.results46, go_sem, q0, q1, q2, q3]) rfl ⟨none, 0, none, 0, (by rw [unhide HX2]; rfl), (by rw [unhide HX2]; exact ⟨⟨⟨fun h => absurd rfl h, Nat.zero_le _⟩, bs_none _⟩, fun k hk => by simp [blk] at hk, fun k hk => by simp [blk] at hk⟩), HBW⟩
    · have hn4 := unhide HRM hnn
      have f1 : ¬ (8192 : Int) < (n : Int) := by omega
      have hn8 : n ≤ 8192 := by omega
      have fe : ((n : Int) == (s.length : Int)) = false := by rw [beq_eq_false_iff_ne]; omega
      rw [if_neg hnn] at hX1
      have HX1 : Hid (X = rp1 s n) := hX1
      have e1 : (str s).extract 0 n = str (s.take n) := cut_to s n
      have HCU := hide (cut8 (s.take n) V (by simp; omega))
      have hX2 := unhide HX1
      unfold rp1 at hX2
      have HLL : Hid (∀ y ∈ Lib.split (s.take n) [13, 10], y.length ≤ 8192) := fun y hy => by
        have := split_len [13, 10] _ (s.take n) y hy
        simp at this
        omega
      have HL1 : Hid (1 ≤ (Lib.split (s.take n) [13, 10]).length ∧ (Lib.split (s.take n) [13, 10]).length ≤ 100000) := by
        refine ⟨?_, ?_⟩
        · unfold Lib.split
          cases Lib.count (s.take n) [13, 10] with
          | zero => simp [Lib.splitK]
          | succ k => simp only [Lib.splitK]; split <;> simp
        · have h1 := splK_len [13, 10] (Lib.count (s.take n) [13, 10]) (s.take n)
          have h2 := Lib.count_le (s.take n) [13, 10]
          unfold Lib.split
          simp at h2
          omega
      generalize Lib.split (s.take n) [13, 10] = L at *
      have HX2 := hide hX2
      clear hX1 hX2 HX1 HX h431 fg hnn
      go_wp2_with fail
      refine (unhide HCU).mono ?_
      rintro e w1 ⟨a1, ca, L', rfl, hL', HO, HB1'⟩
      obtain rfl := unhide hL'
      have HB1 : Hid (Below w.heap.size w w1 ∧ w1.heap[w.heap.size]? = some (.cells #[.string ⟨#[]⟩, .string ⟨#[]⟩, .slice none 0 0, .slice none 0 0] 39 (0, 0))) := ⟨(unhide HBV).1.trans ((unhide HB1').mono (unhide HBV).1.size), ((unhide HB1').block _ (unhide HZV)).trans (unhide HBV).2⟩
      have HZ1 : Hid (w.heap.size < w1.heap.size) := Nat.lt_of_lt_of_le (unhide HZV) (unhide HB1').size
      clear HCU hL' HB1' HBV HZV kc
      obtain ⟨g, hg, hgb, hgl, hcl⟩ := (unhide HO).some (unhide HL1).1
      subst hg
      have HCE := hide hcl
      have hLl := (unhide HL1).2
      have hL1 := (unhide HL1).1
      have hcap := (unhide HO).le.1
      clear hcl hgb hgl
      go_wp2
      go_loopw [44] (fun i wr => ∃ k : Nat, k ≤ L'.length ∧ i = .int .i64 (k : Int) ∧ Hid ((L'.take k).any bad = false) ∧ Hid (Below w1.heap.size w1 wr)) (fun i _ => L'.length - (intOf i).toNat)
      case atStart => exact ⟨0, Nat.zero_le _, rfl, rfl, Below.refl _ _⟩
      case round =>
        obtain ⟨k, hk, rfl, HBD, HBr⟩ := hrel
        have HBw : Hid (Below w.heap.size w wr ∧ wr.heap[w.heap.size]? = some (.cells #[.string ⟨#[]⟩, .string ⟨#[]⟩, .slice none 0 0, .slice none 0 0] 39 (0, 0))) := ⟨(unhide HB1).1.trans ((unhide HBr).mono (unhide HB1).1.size), ((unhide HBr).block _ (unhide HZ1)).trans (unhide HB1).2⟩
        by_cases hlt : k < L'.length
        · have hlt' : (k : Int) < (L'.length : Int) := by omega
          obtain ⟨t, ht⟩ : ∃ t, L'[k]? = some t := ⟨_, List.getElem?_eq_getElem hlt⟩
          have hck : wr.cell? ⟨g, k, none⟩ = some (.string (str t)) := by
            have h1 := unhide HCE k hlt
            rw [show L'.getD k [] = t by rw [List.getD_eq_getElem?_getD, ht]; rfl] at h1
            rw [(unhide HBr).cell (World.block_lt_of_cell? w1 _ h1)]
            exact h1
          have htl : t.length ≤ 8192 := unhide HLL t (List.mem_of_getElem? ht)
          have HBO := hide (bad_of t)
          have HT1 : Hid (∀ w, Calls Tryz.prog 73 #[.int .u8 13, .string (str t)] w fun e w' => e = .returned (.bool (t.contains 13)) ∧ Hid (Below w.heap.size w w')) := fun w => of_any 13 t w (by omega)
          have HT2 : Hid (∀ w, Calls Tryz.prog 73 #[.int .u8 10, .string (str t)] w fun e w' => e = .returned (.bool (t.contains 10)) ∧ Hid (Below w.heap.size w w')) := fun w => of_any 10 t w (by omega)
          have HTK := hide ht
          generalize t.contains 13 = b1 at *
          generalize t.contains 10 = b2 at *
          clear ht
          go_wp2_with fail
          refine (unhide HT1 _).mono ?_
          rintro e w2 ⟨rfl, HB2⟩
          have HBx : Hid (Below w.heap.size w w2 ∧ w2.heap[w.heap.size]? = some (.cells #[.string ⟨#[]⟩, .string ⟨#[]⟩, .slice none 0 0, .slice none 0 0] 39 (0, 0))) := ⟨(unhide HBw).1.trans ((unhide HB2).mono (unhide HBw).1.size), ((unhide HB2).block _ (Nat.lt_of_lt_of_le (unhide HZ1) (unhide HBr).size)).trans (unhide HBw).2⟩
          have HBy : Hid (Below w1.heap.size w1 w2) := (unhide HBr).trans ((unhide HB2).mono (unhide HBr).size)
          have HZ2 : Hid (w.heap.size < w2.heap.size) := Nat.lt_of_lt_of_le (unhide HZ1) (unhide HBy).size
          have HBAD : Hid (bad t = true → X = (Rq.nil, 0, 400)) := fun hb => by
            rw [unhide HX2, if_pos]
            exact List.any_eq_true.2 ⟨t, List.mem_of_getElem? (unhide HTK), hb⟩
          have HNXT : Hid (bad t = false → (L'.take (k + 1)).any bad = false) := fun hb => by
            rw [List.take_add_one, unhide HTK, List.any_append, unhide HBD]
            simp [hb]
          clear hck HB2 HBr HBw
          cases b1 with
          | true =>
            have HX3 : Hid (X = (Rq.nil, 0, 400)) := unhide HBAD (by rw [unhide HBO]; rfl)
            have hrR := (unhide HBx).2
            have r0 : w2.cell? ⟨w.heap.size, 0, none⟩ = some (.string ⟨#[]⟩) := cell_of_row _ _ _ _ _ _ (hrR)
            have r1 : w2.cell? ⟨w.heap.size, 1, none⟩ = some (.string ⟨#[]⟩) := cell_of_row _ _ _ _ _ _ (hrR)
            have r2 : w2.cell? ⟨w.heap.size, 2, none⟩ = some (.slice none 0 0) := cell_of_row _ _ _ _ _ _ (hrR)
            have r3 : w2.cell? ⟨w.heap.size, 3, none⟩ = some (.slice none 0 0) := cell_of_row _ _ _ _ _ _ (hrR)
            have z0 := frozen_of_row w2 w.heap.size 0 _ _ (hrR)
            have z1 := frozen_of_row w2 w.heap.size 1 _ _ (hrR)
            have z2 := frozen_of_row w2 w.heap.size 2 _ _ (hrR)
            have z3 := frozen_of_row w2 w.heap.size 3 _ _ (hrR)
            obtain ⟨W, hW⟩ : ∃ W, W = (((w2.setCell ⟨w.heap.size, 0, none⟩ (.string ⟨#[]⟩)).setCell ⟨w.heap.size, 1, none⟩ (.string ⟨#[]⟩)).setCell ⟨w.heap.size, 2, none⟩ (.slice none 0 0)).setCell ⟨w.heap.size, 3, none⟩ (.slice none 0 0) := ⟨_, rfl⟩
            obtain ⟨s1, s2, s3⟩ := set4j w2 w.heap.size _ _ _ _ (.string ⟨#[]⟩) (.string ⟨#[]⟩) (.slice none 0 0) (.slice none 0 0) _ hrR
            rw [← hW] at s1 s2 s3
            have q0 : W.cell? ⟨w.heap.size, 0, none⟩ = some (.string ⟨#[]⟩) := cell_of_row _ _ _ _ _ _ s1
            have q1 : W.cell? ⟨w.heap.size, 1, none⟩ = some (.string ⟨#[]⟩) := cell_of_row _ _ _ _ _ _ s1
            have q2 : W.cell? ⟨w.heap.size, 2, none⟩ = some (.slice none 0 0) := cell_of_row _ _ _ _ _ _ s1
            have q3 : W.cell? ⟨w.heap.size, 3, none⟩ = some (.slice none 0 0) := cell_of_row _ _ _ _ _ _ s1
            have HBW : Hid (Below w.heap.size w W) := s3 w _ (unhide HBx).1 (Nat.le_refl _)
            clear hrR s1 s2 s3
            go_wp2
            rw [← hW]
            refine bodyPost_ret (v := .tuple #[.agg #[.string ⟨#[]⟩, .string ⟨#[]⟩, .slice none 0 0, .slice none 0 0], .int .i64 0, .int .i64 400]) (by simp [results, Tryz.results46, go_sem, q0, q1, q2, q3]) rfl ⟨none, 0, none, 0, (by rw [unhide HX3]; rfl), (by rw [unhide HX3]; exact ⟨⟨⟨fun h => absurd rfl h, Nat.zero_le _⟩, bs_none _⟩, fun k hk => by simp [blk] at hk, fun k hk => by simp [blk] at hk⟩), HBW⟩
          | false =>
            go_wp2_with fail
            refine (unhide HT2 _).mono ?_
            rintro e w3 ⟨rfl, HB3⟩
            have HBx3 : Hid (Below w.heap.size w w3 ∧ w3.heap[w.heap.size]? = some (.cells #[.string ⟨#[]⟩, .string ⟨#[]⟩, .slice none 0 0, .slice none 0 0] 39 (0, 0))) := ⟨(unhide HBx).1.trans ((unhide HB3).mono (unhide HBx).1.size), ((unhide HB3).block _ (unhide HZ2)).trans (unhide HBx).2⟩
            have HBy3 : Hid (Below w1.heap.size w1 w3) := (unhide HBy).trans ((unhide HB3).mono (unhide HBy).size)
            clear HB3 HBx HBy HT1 HT2
            cases b2 with
            | true =>
              have HX3 : Hid (X = (Rq.nil, 0, 400)) := unhide HBAD (by rw [unhide HBO]; rfl)
              have hrR := (unhide HBx3).2
              have r0 : w3.cell? ⟨w.heap.size, 0, none⟩ = some (.string ⟨#[]⟩) := cell_of_row _ _ _ _ _ _ (hrR)
              have r1 : w3.cell? ⟨w.heap.size, 1, none⟩ = some (.string ⟨#[]⟩) := cell_of_row _ _ _ _ _ _ (hrR)
              have r2 : w3.cell? ⟨w.heap.size, 2, none⟩ = some (.slice none 0 0) := cell_of_row _ _ _ _ _ _ (hrR)
              have r3 : w3.cell? ⟨w.heap.size, 3, none⟩ = some (.slice none 0 0) := cell_of_row _ _ _ _ _ _ (hrR)
              have z0 := frozen_of_row w3 w.heap.size 0 _ _ (hrR)
              have z1 := frozen_of_row w3 w.heap.size 1 _ _ (hrR)
              have z2 := frozen_of_row w3 w.heap.size 2 _ _ (hrR)
              have z3 := frozen_of_row w3 w.heap.size 3 _ _ (hrR)
              obtain ⟨W, hW⟩ : ∃ W, W = (((w3.setCell ⟨w.heap.size, 0, none⟩ (.string ⟨#[]⟩)).setCell ⟨w.heap.size, 1, none⟩ (.string ⟨#[]⟩)).setCell ⟨w.heap.size, 2, none⟩ (.slice none 0 0)).setCell ⟨w.heap.size, 3, none⟩ (.slice none 0 0) := ⟨_, rfl⟩
              obtain ⟨s1, s2, s3⟩ := set4j w3 w.heap.size _ _ _ _ (.string ⟨#[]⟩) (.string ⟨#[]⟩) (.slice none 0 0) (.slice none 0 0) _ hrR
              rw [← hW] at s1 s2 s3
              have q0 : W.cell? ⟨w.heap.size, 0, none⟩ = some (.string ⟨#[]⟩) := cell_of_row _ _ _ _ _ _ s1
              have q1 : W.cell? ⟨w.heap.size, 1, none⟩ = some (.string ⟨#[]⟩) := cell_of_row _ _ _ _ _ _ s1
              have q2 : W.cell? ⟨w.heap.size, 2, none⟩ = some (.slice none 0 0) := cell_of_row _ _ _ _ _ _ s1
              have q3 : W.cell? ⟨w.heap.size, 3, none⟩ = some (.slice none 0 0) := cell_of_row _ _ _ _ _ _ s1
              have HBW : Hid (Below w.heap.size w W) := s3 w _ (unhide HBx3).1 (Nat.le_refl _)
              clear hrR s1 s2 s3
              go_wp2
              rw [← hW]
              refine bodyPost_ret (v := .tuple #[.agg #[.string ⟨#[]⟩, .string ⟨#[]⟩, .slice none 0 0, .slice none 0 0], .int .i64 0, .int .i64 400]) (by simp [results, Tryz.results46, go_sem, q0, q1, q2, q3]) rfl ⟨none, 0, none, 0, (by rw [unhide HX3]; rfl), (by rw [unhide HX3]; exact ⟨⟨⟨fun h => absurd rfl h, Nat.zero_le _⟩, bs_none _⟩, fun k hk => by simp [blk] at hk, fun k hk => by simp [blk] at hk⟩), HBW⟩
            | false =>
              have HN2 := hide (unhide HNXT (by rw [unhide HBO]; rfl))
              go_wp2
              go_roundw
              case rel => exact ⟨k + 1, by omega, by go_num, HN2, HBy3⟩
              case measure => simp [intOf]; omega
        · obtain rfl : k = L'.length := by omega
          have hX3 := unhide HX2
          have hbd := unhide HBD
          rw [List.take_length] at hbd
          rw [if_neg (by rw [hbd]; decide)] at hX3
          unfold rp2 at hX3
          have h0 : L'[0]? = some (L'.getD 0 []) := by rw [List.getD_eq_getElem?_getD, List.getElem?_eq_getElem (by omega)]; rfl
          have hc0 : wr.cell? ⟨g, 0, none⟩ = some (.string (str (L'.getD 0 []))) := by
            have h1 := unhide HCE 0 (by omega)
            rw [(unhide HBr).cell (World.block_lt_of_cell? w1 _ h1)]
            exact h1
          have htl : (L'.getD 0 []).length ≤ 8192 := unhide HLL _ (List.mem_of_getElem? h0)
          have HLI := hide (line8 (L'.getD 0 []) wr (by omega))
          have HNS : Hid (NsO wr (if ca = 1 then some ⟨g, 0, none⟩ else some ⟨g, 1, none⟩) (L'.drop 1)) := ⟨fun hne => by
            have hc1 : ca ≠ 1 := fun e => hne (List.drop_eq_nil_of_le (by omega))
            rw [if_neg hc1]
            refine ⟨g, 1, rfl, fun t x hx => ?_⟩
            rw [List.getElem?_drop] at hx
            have hlt := (List.getElem?_eq_some_iff.1 hx).1
            have h1 := unhide HCE (1 + t) hlt
            rw [show L'.getD (1 + t) [] = x by rw [List.getD_eq_getElem?_getD, hx]; rfl] at h1
            rw [(unhide HBr).cell (World.block_lt_of_cell? w1 _ h1)]
            exact h1⟩
          have HLD : Hid (∀ x ∈ L'.drop 1, x.length ≤ 8192) := fun x hx => unhide HLL x (List.mem_of_mem_drop hx)
          have hdl : (L'.drop 1).length = L'.length - 1 := by simp
          have HDL := hide hdl
          have HFL := hide (fr8_lim (L'.drop 1) [] (by simp))
          have HFN := hide (fr8_len 8192 (L'.drop 1) [] (unhide HLD) (fun h hh => by simp at hh))
          generalize L'.getD 0 [] = l0 at *
          generalize L'.drop 1 = Ls at *
          generalize lnM l0 = f at *
          obtain ⟨fm, fp, fs⟩ := f
          simp only at HLI hX3
          have HX3 := hide hX3
          clear hX3 hbd hlt h0 hdl HX2 HBD
          have hge : ¬ (L'.length : Int) < (L'.length : Int) := by omega
          go_wp2_with fail
          refine (unhide HLI).mono ?_
          rintro e w4 ⟨rfl, HB4'⟩
          have HB4 : Hid (Below w.heap.size w w4 ∧ w4.heap[w.heap.size]? = some (.cells #[.string ⟨#[]⟩, .string ⟨#[]⟩, .slice none 0 0, .slice none 0 0] 39 (0, 0))) := ⟨(unhide HBw).1.trans ((unhide HB4').mono (unhide HBw).1.size), ((unhide HB4').block _ (Nat.lt_of_lt_of_le (unhide HZ1) (unhide HBr).size)).trans (unhide HBw).2⟩
          have HZ4 : Hid (w.heap.size < w4.heap.size) := Nat.lt_of_lt_of_le (Nat.lt_of_lt_of_le (unhide HZ1) (unhide HBr).size) (unhide HB4').size
          have HNS4 := hide ((unhide HNS).below (unhide HB4') (Nat.le_refl _))
          clear HLI hc0 HB4' HBw HBr HNS
          by_cases hfs : fs = 0
          · subst hfs
            have hX4 := unhide HX3
            rw [if_neg (by simp)] at hX4
            have HX4 := hide hX4
            clear hX4 HX3
            by_cases hca : ca = 1
            · subst hca
              obtain rfl : Ls = [] := List.eq_nil_of_length_eq_zero (by have := unhide HDL; omega)
              have HFI := hide (fields8 w4 (some ⟨g, 0, none⟩) 0 [] ⟨fun h => absurd rfl h⟩ (by simp) (fun x hx => by simp at hx))
              rw [show ([] : List (List UInt8)).length = 0 from rfl] at HFI
              go_wp2_with fail
              refine (unhide HFI).mono ?_
              rintro e w5 ⟨ha, hc, H, st, rfl, HHS, HHd, HB5'⟩
              have HB5 : Hid (Below w.heap.size w w5 ∧ w5.heap[w.heap.size]? = some (.cells #[.string ⟨#[]⟩, .string ⟨#[]⟩, .slice none 0 0, .slice none 0 0] 39 (0, 0))) := ⟨(unhide HB4).1.trans ((unhide HB5').mono (unhide HB4).1.size), ((unhide HB5').block _ (unhide HZ4)).trans (unhide HB4).2⟩
              have HZ5 : Hid (w.heap.size < w5.heap.size) := Nat.lt_of_lt_of_le (unhide HZ4) (unhide HB5').size
              have hX5 := unhide HX4
              rw [← unhide HHS] at hX5
              simp only at hX5
              have HOF : Hid (∀ k, blk ha = some k → w.heap.size < k) := fun k hk => Nat.lt_of_lt_of_le (unhide HZ4) ((unhide HHd).2 k hk)
              have HHL : Hid (H.length ≤ 32 ∧ ∀ h ∈ H, h.2.length ≤ 8192) := by
                have h1 := unhide HFL
                have h2 := unhide HFN
                rw [← unhide HHS] at h1 h2
                exact ⟨h1, h2⟩
              have HX5 := hide hX5
              clear HFI HB5' HB4 HZ4 HX4 hX5 HHS HFL HFN
              by_cases hst : st = 0
              · subst hst
                have hX6 := unhide HX5
                rw [if_neg (by simp)] at hX6
                have e6 : (str s).extract (n + 4) s.length = str (s.drop (n + 4)) := cut_from s (n + 4)
                have HBO := hide (body8 ha hc H (s.drop (n + 4)) w5 (unhide HHd).1 (unhide HHL).1 (fun h hh => by have := (unhide HHL).2 h hh; omega) (by simp; omega))
                have HBL := hide (bdM_le H (s.drop (n + 4)))
                unfold rp3 at hX6
                generalize bdM H (s.drop (n + 4)) = BD at *
                obtain ⟨Bb, bn, bst⟩ := BD
                simp only at hX6 HBO HBL
                have HX6 := hide hX6
                clear HX5 hX6
                go_wp2_with fail
                refine (unhide HBO).mono ?_
                rintro e w6 ⟨bx, bcx, B2, n2, st2, rfl, HQ, HBs, HB6'⟩
                obtain ⟨rfl, rfl, rfl⟩ : B2 = Bb ∧ n2 = bn ∧ st2 = bst := by simpa using unhide HQ
                have HB6 : Hid (Below w.heap.size w w6 ∧ w6.heap[w.heap.size]? = some (.cells #[.string ⟨#[]⟩, .string ⟨#[]⟩, .slice none 0 0, .slice none 0 0] 39 (0, 0))) := ⟨(unhide HB5).1.trans ((unhide HB6').mono (unhide HB5).1.size), ((unhide HB6').block _ (unhide HZ5)).trans (unhide HB5).2⟩
                have HHd6 := hide ((unhide HHd).1.below (unhide HB6') (Nat.le_refl _))
                have HOB : Hid (∀ k, blk bx = some k → w.heap.size < k) := fun k hk => Nat.lt_of_lt_of_le (unhide HZ5) ((unhide HBs).2 k hk)
                have HBs6 := hide (unhide HBs).1
                have hn2 : n2 ≤ 140737488353280 := by have := unhide HBL; simp at this; omega
                clear HBO HQ HB5 HB6' HZ5 HHd HBs HBL
                by_cases hs2 : st2 = 0
                · subst hs2
                  have hX7 := unhide HX6
                  rw [if_neg (by simp)] at hX7
                  have HX7 : Hid (X = (⟨fm, fp, H, B2⟩, n + 4 + n2, 0)) := hX7
                  have hrR := (unhide HB6).2
                  have r0 : w6.cell? ⟨w.heap.size, 0, none⟩ = some (.string ⟨#[]⟩) := cell_of_row _ _ _ _ _ _ (hrR)
                  have r1 : w6.cell? ⟨w.heap.size, 1, none⟩ = some (.string ⟨#[]⟩) := cell_of_row _ _ _ _ _ _ (hrR)
                  have r2 : w6.cell? ⟨w.heap.size, 2, none⟩ = some (.slice none 0 0) := cell_of_row _ _ _ _ _ _ (hrR)
                  have r3 : w6.cell? ⟨w.heap.size, 3, none⟩ = some (.slice none 0 0) := cell_of_row _ _ _ _ _ _ (hrR)
                  have z0 := frozen_of_row w6 w.heap.size 0 _ _ (hrR)
                  have z1 := frozen_of_row w6 w.heap.size 1 _ _ (hrR)
                  have z2 := frozen_of_row w6 w.heap.size 2 _ _ (hrR)
                  have z3 := frozen_of_row w6 w.heap.size 3 _ _ (hrR)
                  obtain ⟨W, hW⟩ : ∃ W, W = (((w6.setCell ⟨w.heap.size, 0, none⟩ (.string (str fm))).setCell ⟨w.heap.size, 1, none⟩ (.string (str fp))).setCell ⟨w.heap.size, 2, none⟩ (.slice ha H.length hc)).setCell ⟨w.heap.size, 3, none⟩ (.slice bx B2.length bcx) := ⟨_, rfl⟩
                  obtain ⟨s1, s2, s3⟩ := set4j w6 w.heap.size _ _ _ _ (.string (str fm)) (.string (str fp)) (.slice ha H.length hc) (.slice bx B2.length bcx) _ hrR
                  rw [← hW] at s1 s2 s3
                  have q0 : W.cell? ⟨w.heap.size, 0, none⟩ = some (.string (str fm)) := cell_of_row _ _ _ _ _ _ s1
                  have q1 : W.cell? ⟨w.heap.size, 1, none⟩ = some (.string (str fp)) := cell_of_row _ _ _ _ _ _ s1
                  have q2 : W.cell? ⟨w.heap.size, 2, none⟩ = some (.slice ha H.length hc) := cell_of_row _ _ _ _ _ _ s1
                  have q3 : W.cell? ⟨w.heap.size, 3, none⟩ = some (.slice bx B2.length bcx) := cell_of_row _ _ _ _ _ _ s1
                  have HBW : Hid (Below w.heap.size w W) := s3 w _ (unhide HB6).1 (Nat.le_refl _)
                  have HHW : Hid (HdR W ha H) := (unhide HHd6).same fun k hk _ => s2 k (Nat.ne_of_gt (unhide HOF k hk))
                  have HSW : Hid (Bs W bx bcx B2) := bs_samej (unhide HBs6) fun k hk => s2 k (Nat.ne_of_gt (unhide HOB k hk))
                  clear hrR s1 s2 s3
                  go_wp2
                  rw [← hW]
                  refine bodyPost_ret (v := .tuple #[.agg #[.string (str fm), .string (str fp), .slice ha H.length hc, .slice bx B2.length bcx], .int .i64 ((n : Int) + 4 + (n2 : Int)), .int .i64 0]) (by simp [results, Tryz.results46, go_sem, q0, q1, q2, q3]) rfl ⟨ha, hc, bx, bcx, (by rw [unhide HX7]; rfl), (by rw [unhide HX7]; exact ⟨⟨unhide HHW, unhide HSW⟩, fun k hk => Nat.le_of_lt (unhide HOF k hk), fun k hk => Nat.le_of_lt (unhide HOB k hk)⟩), HBW⟩
                · have fs2 : ((st2 : Int) != 0) = true := by rw [bne_iff_ne]; omega
                  have HX7 : Hid (X = (Rq.nil, 0, st2)) := by show _ = _; rw [unhide HX6, if_pos hs2]
                  clear hs2 HX6
                  have hrR := (unhide HB6).2
                  have r0 : w6.cell? ⟨w.heap.size, 0, none⟩ = some (.string ⟨#[]⟩) := cell_of_row _ _ _ _ _ _ (hrR)
                  have r1 : w6.cell? ⟨w.heap.size, 1, none⟩ = some (.string ⟨#[]⟩) := cell_of_row _ _ _ _ _ _ (hrR)
                  have r2 : w6.cell? ⟨w.heap.size, 2, none⟩ = some (.slice none 0 0) := cell_of_row _ _ _ _ _ _ (hrR)
                  have r3 : w6.cell? ⟨w.heap.size, 3, none⟩ = some (.slice none 0 0) := cell_of_row _ _ _ _ _ _ (hrR)
                  have z0 := frozen_of_row w6 w.heap.size 0 _ _ (hrR)
                  have z1 := frozen_of_row w6 w.heap.size 1 _ _ (hrR)
                  have z2 := frozen_of_row w6 w.heap.size 2 _ _ (hrR)
                  have z3 := frozen_of_row w6 w.heap.size 3 _ _ (hrR)
                  obtain ⟨W, hW⟩ : ∃ W, W = (((w6.setCell ⟨w.heap.size, 0, none⟩ (.string ⟨#[]⟩)).setCell ⟨w.heap.size, 1, none⟩ (.string ⟨#[]⟩)).setCell ⟨w.heap.size, 2, none⟩ (.slice none 0 0)).setCell ⟨w.heap.size, 3, none⟩ (.slice none 0 0) := ⟨_, rfl⟩
                  obtain ⟨s1, s2, s3⟩ := set4j w6 w.heap.size _ _ _ _ (.string ⟨#[]⟩) (.string ⟨#[]⟩) (.slice none 0 0) (.slice none 0 0) _ hrR
                  rw [← hW] at s1 s2 s3
                  have q0 : W.cell? ⟨w.heap.size, 0, none⟩ = some (.string ⟨#[]⟩) := cell_of_row _ _ _ _ _ _ s1
                  have q1 : W.cell? ⟨w.heap.size, 1, none⟩ = some (.string ⟨#[]⟩) := cell_of_row _ _ _ _ _ _ s1
                  have q2 : W.cell? ⟨w.heap.size, 2, none⟩ = some (.slice none 0 0) := cell_of_row _ _ _ _ _ _ s1
                  have q3 : W.cell? ⟨w.heap.size, 3, none⟩ = some (.slice none 0 0) := cell_of_row _ _ _ _ _ _ s1
                  have HBW : Hid (Below w.heap.size w W) := s3 w _ (unhide HB6).1 (Nat.le_refl _)
                  clear hrR s1 s2 s3
                  go_wp2
                  rw [← hW]
                  refine bodyPost_ret (v := .tuple #[.agg #[.string ⟨#[]⟩, .string ⟨#[]⟩, .slice none 0 0, .slice none 0 0], .int .i64 0, .int .i64 (st2 : Int)]) (by simp [results, Tryz.results46, go_sem, q0, q1, q2, q3]) rfl ⟨none, 0, none, 0, (by rw [unhide HX7]; rfl), (by rw [unhide HX7]; exact ⟨⟨⟨fun h => absurd rfl h, Nat.zero_le _⟩, bs_none _⟩, fun k hk => by simp [blk] at hk, fun k hk => by simp [blk] at hk⟩), HBW⟩
              · have fs2 : ((st : Int) != 0) = true := by rw [bne_iff_ne]; omega
                have HX7 : Hid (X = (Rq.nil, 0, st)) := by show _ = _; rw [unhide HX5, if_pos hst]
                clear hst HX5
                have hrR := (unhide HB5).2
                have r0 : w5.cell? ⟨w.heap.size, 0, none⟩ = some (.string ⟨#[]⟩) := cell_of_row _ _ _ _ _ _ (hrR)
                have r1 : w5.cell? ⟨w.heap.size, 1, none⟩ = some (.string ⟨#[]⟩) := cell_of_row _ _ _ _ _ _ (hrR)
                have r2 : w5.cell? ⟨w.heap.size, 2, none⟩ = some (.slice none 0 0) := cell_of_row _ _ _ _ _ _ (hrR)
                have r3 : w5.cell? ⟨w.heap.size, 3, none⟩ = some (.slice none 0 0) := cell_of_row _ _ _ _ _ _ (hrR)
                have z0 := frozen_of_row w5 w.heap.size 0 _ _ (hrR)
                have z1 := frozen_of_row w5 w.heap.size 1 _ _ (hrR)
                have z2 := frozen_of_row w5 w.heap.size 2 _ _ (hrR)
                have z3 := frozen_of_row w5 w.heap.size 3 _ _ (hrR)
                obtain ⟨W, hW⟩ : ∃ W, W = (((w5.setCell ⟨w.heap.size, 0, none⟩ (.string ⟨#[]⟩)).setCell ⟨w.heap.size, 1, none⟩ (.string ⟨#[]⟩)).setCell ⟨w.heap.size, 2, none⟩ (.slice none 0 0)).setCell ⟨w.heap.size, 3, none⟩ (.slice none 0 0) := ⟨_, rfl⟩
                obtain ⟨s1, s2, s3⟩ := set4j w5 w.heap.size _ _ _ _ (.string ⟨#[]⟩) (.string ⟨#[]⟩) (.slice none 0 0) (.slice none 0 0) _ hrR
                rw [← hW] at s1 s2 s3
                have q0 : W.cell? ⟨w.heap.size, 0, none⟩ = some (.string ⟨#[]⟩) := cell_of_row _ _ _ _ _ _ s1
                have q1 : W.cell? ⟨w.heap.size, 1, none⟩ = some (.string ⟨#[]⟩) := cell_of_row _ _ _ _ _ _ s1
                have q2 : W.cell? ⟨w.heap.size, 2, none⟩ = some (.slice none 0 0) := cell_of_row _ _ _ _ _ _ s1
                have q3 : W.cell? ⟨w.heap.size, 3, none⟩ = some (.slice none 0 0) := cell_of_row _ _ _ _ _ _ s1
                have HBW : Hid (Below w.heap.size w W) := s3 w _ (unhide HB5).1 (Nat.le_refl _)
                clear hrR s1 s2 s3
                go_wp2
                rw [← hW]
                refine bodyPost_ret (v := .tuple #[.agg #[.string ⟨#[]⟩, .string ⟨#[]⟩, .slice none 0 0, .slice none 0 0], .int .i64 0, .int .i64 (st : Int)]) (by simp [results, Tryz.results46, go_sem, q0, q1, q2, q3]) rfl ⟨none, 0, none, 0, (by rw [unhide HX7]; rfl), (by rw [unhide HX7]; exact ⟨⟨⟨fun h => absurd rfl h, Nat.zero_le _⟩, bs_none _⟩, fun k hk => by simp [blk] at hk, fun k hk => by simp [blk] at hk⟩), HBW⟩
            · have HFI := hide (fields8 w4 (some ⟨g, 1, none⟩) (ca - 1) Ls (by have := unhide HNS4; rw [if_neg hca] at this; exact this) (by have := unhide HDL; omega) (fun x hx => by have := unhide HLD x hx; omega))
              rw [unhide HDL] at HFI
              clear HNS4
              go_wp2_with fail
              refine (unhide HFI).mono ?_
              rintro e w5 ⟨ha, hc, H, st, rfl, HHS, HHd, HB5'⟩
              have HB5 : Hid (Below w.heap.size w w5 ∧ w5.heap[w.heap.size]? = some (.cells #[.string ⟨#[]⟩, .string ⟨#[]⟩, .slice none 0 0, .slice none 0 0] 39 (0, 0))) := ⟨(unhide HB4).1.trans ((unhide HB5').mono (unhide HB4).1.size), ((unhide HB5').block _ (unhide HZ4)).trans (unhide HB4).2⟩
              have HZ5 : Hid (w.heap.size < w5.heap.size) := Nat.lt_of_lt_of_le (unhide HZ4) (unhide HB5').size
              have hX5 := unhide HX4
              rw [← unhide HHS] at hX5
              simp only at hX5
              have HOF : Hid (∀ k, blk ha = some k → w.heap.size < k) := fun k hk => Nat.lt_of_lt_of_le (unhide HZ4) ((unhide HHd).2 k hk)
              have HHL : Hid (H.length ≤ 32 ∧ ∀ h ∈ H, h.2.length ≤ 8192) := by
                have h1 := unhide HFL
                have h2 := unhide HFN
                rw [← unhide HHS] at h1 h2
                exact ⟨h1, h2⟩
              have HX5 := hide hX5
              clear HFI HB5' HB4 HZ4 HX4 hX5 HHS HFL HFN
              by_cases hst : st = 0
              · subst hst
                have hX6 := unhide HX5
                rw [if_neg (by simp)] at hX6
                have e6 : (str s).extract (n + 4) s.length = str (s.drop (n + 4)) := cut_from s (n + 4)
                have HBO := hide (body8 ha hc H (s.drop (n + 4)) w5 (unhide HHd).1 (unhide HHL).1 (fun h hh => by have := (unhide HHL).2 h hh; omega) (by simp; omega))
                have HBL := hide (bdM_le H (s.drop (n + 4)))
                unfold rp3 at hX6
                generalize bdM H (s.drop (n + 4)) = BD at *
                obtain ⟨Bb, bn, bst⟩ := BD
                simp only at hX6 HBO HBL
                have HX6 := hide hX6
                clear HX5 hX6
                go_wp2_with fail
                refine (unhide HBO).mono ?_
                rintro e w6 ⟨bx, bcx, B2, n2, st2, rfl, HQ, HBs, HB6'⟩
                obtain ⟨rfl, rfl, rfl⟩ : B2 = Bb ∧ n2 = bn ∧ st2 = bst := by simpa using unhide HQ
                have HB6 : Hid (Below w.heap.size w w6 ∧ w6.heap[w.heap.size]? = some (.cells #[.string ⟨#[]⟩, .string ⟨#[]⟩, .slice none 0 0, .slice none 0 0] 39 (0, 0))) := ⟨(unhide HB5).1.trans ((unhide HB6').mono (unhide HB5).1.size), ((unhide HB6').block _ (unhide HZ5)).trans (unhide HB5).2⟩
                have HHd6 := hide ((unhide HHd).1.below (unhide HB6') (Nat.le_refl _))
                have HOB : Hid (∀ k, blk bx = some k → w.heap.size < k) := fun k hk => Nat.lt_of_lt_of_le (unhide HZ5) ((unhide HBs).2 k hk)
                have HBs6 := hide (unhide HBs).1
                have hn2 : n2 ≤ 140737488353280 := by have := unhide HBL; simp at this; omega
                clear HBO HQ HB5 HB6' HZ5 HHd HBs HBL
                by_cases hs2 : st2 = 0
                · subst hs2
                  have hX7 := unhide HX6
                  rw [if_neg (by simp)] at hX7
                  have HX7 : Hid (X = (⟨fm, fp, H, B2⟩, n + 4 + n2, 0)) := hX7
                  have hrR := (unhide HB6).2
                  have r0 : w6.cell? ⟨w.heap.size, 0, none⟩ = some (.string ⟨#[]⟩) := cell_of_row _ _ _ _ _ _ (hrR)
                  have r1 : w6.cell? ⟨w.heap.size, 1, none⟩ = some (.string ⟨#[]⟩) := cell_of_row _ _ _ _ _ _ (hrR)
                  have r2 : w6.cell? ⟨w.heap.size, 2, none⟩ = some (.slice none 0 0) := cell_of_row _ _ _ _ _ _ (hrR)
                  have r3 : w6.cell? ⟨w.heap.size, 3, none⟩ = some (.slice none 0 0) := cell_of_row _ _ _ _ _ _ (hrR)
                  have z0 := frozen_of_row w6 w.heap.size 0 _ _ (hrR)
                  have z1 := frozen_of_row w6 w.heap.size 1 _ _ (hrR)
                  have z2 := frozen_of_row w6 w.heap.size 2 _ _ (hrR)
                  have z3 := frozen_of_row w6 w.heap.size 3 _ _ (hrR)
                  obtain ⟨W, hW⟩ : ∃ W, W = (((w6.setCell ⟨w.heap.size, 0, none⟩ (.string (str fm))).setCell ⟨w.heap.size, 1, none⟩ (.string (str fp))).setCell ⟨w.heap.size, 2, none⟩ (.slice ha H.length hc)).setCell ⟨w.heap.size, 3, none⟩ (.slice bx B2.length bcx) := ⟨_, rfl⟩
                  obtain ⟨s1, s2, s3⟩ := set4j w6 w.heap.size _ _ _ _ (.string (str fm)) (.string (str fp)) (.slice ha H.length hc) (.slice bx B2.length bcx) _ hrR
                  rw [← hW] at s1 s2 s3
                  have q0 : W.cell? ⟨w.heap.size, 0, none⟩ = some (.string (str fm)) := cell_of_row _ _ _ _ _ _ s1
                  have q1 : W.cell? ⟨w.heap.size, 1, none⟩ = some (.string (str fp)) := cell_of_row _ _ _ _ _ _ s1
                  have q2 : W.cell? ⟨w.heap.size, 2, none⟩ = some (.slice ha H.length hc) := cell_of_row _ _ _ _ _ _ s1
                  have q3 : W.cell? ⟨w.heap.size, 3, none⟩ = some (.slice bx B2.length bcx) := cell_of_row _ _ _ _ _ _ s1
                  have HBW : Hid (Below w.heap.size w W) := s3 w _ (unhide HB6).1 (Nat.le_refl _)
                  have HHW : Hid (HdR W ha H) := (unhide HHd6).same fun k hk _ => s2 k (Nat.ne_of_gt (unhide HOF k hk))
                  have HSW : Hid (Bs W bx bcx B2) := bs_samej (unhide HBs6) fun k hk => s2 k (Nat.ne_of_gt (unhide HOB k hk))
                  clear hrR s1 s2 s3
                  go_wp2
                  rw [← hW]
                  refine bodyPost_ret (v := .tuple #[.agg #[.string (str fm), .string (str fp), .slice ha H.length hc, .slice bx B2.length bcx], .int .i64 ((n : Int) + 4 + (n2 : Int)), .int .i64 0]) (by simp [results, Tryz.results46, go_sem, q0, q1, q2, q3]) rfl ⟨ha, hc, bx, bcx, (by rw [unhide HX7]; rfl), (by rw [unhide HX7]; exact ⟨⟨unhide HHW, unhide HSW⟩, fun k hk => Nat.le_of_lt (unhide HOF k hk), fun k hk => Nat.le_of_lt (unhide HOB k hk)⟩), HBW⟩
                · have fs2 : ((st2 : Int) != 0) = true := by rw [bne_iff_ne]; omega
                  have HX7 : Hid (X = (Rq.nil, 0, st2)) := by show _ = _; rw [unhide HX6, if_pos hs2]
                  clear hs2 HX6
                  have hrR := (unhide HB6).2
                  have r0 : w6.cell? ⟨w.heap.size, 0, none⟩ = some (.string ⟨#[]⟩) := cell_of_row _ _ _ _ _ _ (hrR)
                  have r1 : w6.cell? ⟨w.heap.size, 1, none⟩ = some (.string ⟨#[]⟩) := cell_of_row _ _ _ _ _ _ (hrR)
                  have r2 : w6.cell? ⟨w.heap.size, 2, none⟩ = some (.slice none 0 0) := cell_of_row _ _ _ _ _ _ (hrR)
                  have r3 : w6.cell? ⟨w.heap.size, 3, none⟩ = some (.slice none 0 0) := cell_of_row _ _ _ _ _ _ (hrR)
                  have z0 := frozen_of_row w6 w.heap.size 0 _ _ (hrR)
                  have z1 := frozen_of_row w6 w.heap.size 1 _ _ (hrR)
                  have z2 := frozen_of_row w6 w.heap.size 2 _ _ (hrR)
                  have z3 := frozen_of_row w6 w.heap.size 3 _ _ (hrR)
                  obtain ⟨W, hW⟩ : ∃ W, W = (((w6.setCell ⟨w.heap.size, 0, none⟩ (.string ⟨#[]⟩)).setCell ⟨w.heap.size, 1, none⟩ (.string ⟨#[]⟩)).setCell ⟨w.heap.size, 2, none⟩ (.slice none 0 0)).setCell ⟨w.heap.size, 3, none⟩ (.slice none 0 0) := ⟨_, rfl⟩
                  obtain ⟨s1, s2, s3⟩ := set4j w6 w.heap.size _ _ _ _ (.string ⟨#[]⟩) (.string ⟨#[]⟩) (.slice none 0 0) (.slice none 0 0) _ hrR
                  rw [← hW] at s1 s2 s3
                  have q0 : W.cell? ⟨w.heap.size, 0, none⟩ = some (.string ⟨#[]⟩) := cell_of_row _ _ _ _ _ _ s1
                  have q1 : W.cell? ⟨w.heap.size, 1, none⟩ = some (.string ⟨#[]⟩) := cell_of_row _ _ _ _ _ _ s1
                  have q2 : W.cell? ⟨w.heap.size, 2, none⟩ = some (.slice none 0 0) := cell_of_row _ _ _ _ _ _ s1
                  have q3 : W.cell? ⟨w.heap.size, 3, none⟩ = some (.slice none 0 0) := cell_of_row _ _ _ _ _ _ s1
                  have HBW : Hid (Below w.heap.size w W) := s3 w _ (unhide HB6).1 (Nat.le_refl _)
                  clear hrR s1 s2 s3
                  go_wp2
                  rw [← hW]
                  refine bodyPost_ret (v := .tuple #[.agg #[.string ⟨#[]⟩, .string ⟨#[]⟩, .slice none 0 0, .slice none 0 0], .int .i64 0, .int .i64 (st2 : Int)]) (by simp [results, Tryz.results46, go_sem, q0, q1, q2, q3]) rfl ⟨none, 0, none, 0, (by rw [unhide HX7]; rfl), (by rw [unhide HX7]; exact ⟨⟨⟨fun h => absurd rfl h, Nat.zero_le _⟩, bs_none _⟩, fun k hk => by simp [blk] at hk, fun k hk => by simp [blk] at hk⟩), HBW⟩
              · have fs2 : ((st : Int) != 0) = true := by rw [bne_iff_ne]; omega
                have HX7 : Hid (X = (Rq.nil, 0, st)) := by show _ = _; rw [unhide HX5, if_pos hst]
                clear hst HX5
                have hrR := (unhide HB5).2
                have r0 : w5.cell? ⟨w.heap.size, 0, none⟩ = some (.string ⟨#[]⟩) := cell_of_row _ _ _ _ _ _ (hrR)
                have r1 : w5.cell? ⟨w.heap.size, 1, none⟩ = some (.string ⟨#[]⟩) := cell_of_row _ _ _ _ _ _ (hrR)
                have r2 : w5.cell? ⟨w.heap.size, 2, none⟩ = some (.slice none 0 0) := cell_of_row _ _ _ _ _ _ (hrR)
                have r3 : w5.cell? ⟨w.heap.size, 3, none⟩ = some (.slice none 0 0) := cell_of_row _ _ _ _ _ _ (hrR)
                have z0 := frozen_of_row w5 w.heap.size 0 _ _ (hrR)
                have z1 := frozen_of_row w5 w.heap.size 1 _ _ (hrR)
                have z2 := frozen_of_row w5 w.heap.size 2 _ _ (hrR)
                have z3 := frozen_of_row w5 w.heap.size 3 _ _ (hrR)
                obtain ⟨W, hW⟩ : ∃ W, W = (((w5.setCell ⟨w.heap.size, 0, none⟩ (.string ⟨#[]⟩)).setCell ⟨w.heap.size, 1, none⟩ (.string ⟨#[]⟩)).setCell ⟨w.heap.size, 2, none⟩ (.slice none 0 0)).setCell ⟨w.heap.size, 3, none⟩ (.slice none 0 0) := ⟨_, rfl⟩
                obtain ⟨s1, s2, s3⟩ := set4j w5 w.heap.size _ _ _ _ (.string ⟨#[]⟩) (.string ⟨#[]⟩) (.slice none 0 0) (.slice none 0 0) _ hrR
                rw [← hW] at s1 s2 s3
                have q0 : W.cell? ⟨w.heap.size, 0, none⟩ = some (.string ⟨#[]⟩) := cell_of_row _ _ _ _ _ _ s1
                have q1 : W.cell? ⟨w.heap.size, 1, none⟩ = some (.string ⟨#[]⟩) := cell_of_row _ _ _ _ _ _ s1
                have q2 : W.cell? ⟨w.heap.size, 2, none⟩ = some (.slice none 0 0) := cell_of_row _ _ _ _ _ _ s1
                have q3 : W.cell? ⟨w.heap.size, 3, none⟩ = some (.slice none 0 0) := cell_of_row _ _ _ _ _ _ s1
                have HBW : Hid (Below w.heap.size w W) := s3 w _ (unhide HB5).1 (Nat.le_refl _)
                clear hrR s1 s2 s3
                go_wp2
                rw [← hW]
                refine bodyPost_ret (v := .tuple #[.agg #[.string ⟨#[]⟩, .string ⟨#[]⟩, .slice none 0 0, .slice none 0 0], .int .i64 0, .int .i64 (st : Int)]) (by simp [results, Tryz.results46, go_sem, q0, q1, q2, q3]) rfl ⟨none, 0, none, 0, (by rw [unhide HX7]; rfl), (by rw [unhide HX7]; exact ⟨⟨⟨fun h => absurd rfl h, Nat.zero_le _⟩, bs_none _⟩, fun k hk => by simp [blk] at hk, fun k hk => by simp [blk] at hk⟩), HBW⟩
          · have fs2 : ((fs : Int) != 0) = true := by rw [bne_iff_ne]; omega
            have HX7 : Hid (X = (Rq.nil, 0, fs)) := by show _ = _; rw [unhide HX3, if_pos hfs]
            clear hfs HX3
            have hrR := (unhide HB4).2
            have r0 : w4.cell? ⟨w.heap.size, 0, none⟩ = some (.string ⟨#[]⟩) := cell_of_row _ _ _ _ _ _ (hrR)
            have r1 : w4.cell? ⟨w.heap.size, 1, none⟩ = some (.string ⟨#[]⟩) := cell_of_row _ _ _ _ _ _ (hrR)
            have r2 : w4.cell? ⟨w.heap.size, 2, none⟩ = some (.slice none 0 0) := cell_of_row _ _ _ _ _ _ (hrR)
            have r3 : w4.cell? ⟨w.heap.size, 3, none⟩ = some (.slice none 0 0) := cell_of_row _ _ _ _ _ _ (hrR)
            have z0 := frozen_of_row w4 w.heap.size 0 _ _ (hrR)
            have z1 := frozen_of_row w4 w.heap.size 1 _ _ (hrR)
            have z2 := frozen_of_row w4 w.heap.size 2 _ _ (hrR)
            have z3 := frozen_of_row w4 w.heap.size 3 _ _ (hrR)
            obtain ⟨W, hW⟩ : ∃ W, W = (((w4.setCell ⟨w.heap.size, 0, none⟩ (.string ⟨#[]⟩)).setCell ⟨w.heap.size, 1, none⟩ (.string ⟨#[]⟩)).setCell ⟨w.heap.size, 2, none⟩ (.slice none 0 0)).setCell ⟨w.heap.size, 3, none⟩ (.slice none 0 0) := ⟨_, rfl⟩
            obtain ⟨s1, s2, s3⟩ := set4j w4 w.heap.size _ _ _ _ (.string ⟨#[]⟩) (.string ⟨#[]⟩) (.slice none 0 0) (.slice none 0 0) _ hrR
            rw [← hW] at s1 s2 s3
            have q0 : W.cell? ⟨w.heap.size, 0, none⟩ = some (.string ⟨#[]⟩) := cell_of_row _ _ _ _ _ _ s1
            have q1 : W.cell? ⟨w.heap.size, 1, none⟩ = some (.string ⟨#[]⟩) := cell_of_row _ _ _ _ _ _ s1
            have q2 : W.cell? ⟨w.heap.size, 2, none⟩ = some (.slice none 0 0) := cell_of_row _ _ _ _ _ _ s1
            have q3 : W.cell? ⟨w.heap.size, 3, none⟩ = some (.slice none 0 0) := cell_of_row _ _ _ _ _ _ s1
            have HBW : Hid (Below w.heap.size w W) := s3 w _ (unhide HB4).1 (Nat.le_refl _)
            clear hrR s1 s2 s3
            go_wp2
            rw [← hW]
            refine bodyPost_ret (v := .tuple #[.agg #[.string ⟨#[]⟩, .string ⟨#[]⟩, .slice none 0 0, .slice none 0 0], .int .i64 0, .int .i64 (fs : Int)]) (by simp [results, Tryz.results46, go_sem, q0, q1, q2, q3]) rfl ⟨none, 0, none, 0, (by rw [unhide HX7]; rfl), (by rw [unhide HX7]; exact ⟨⟨⟨fun h => absurd rfl h, Nat.zero_le _⟩, bs_none _⟩, fun k hk => by simp [blk] at hk, fun k hk => by simp [blk] at hk⟩), HBW⟩
theorem rparse (x : Option Addr) (cx : Nat) (s : List UInt8) (w : World) (hb : Bs w x cx s) (hs : s.length ≤ 140737488353280) :
    Calls Tryz.prog 46 #[.slice x s.length cx] w fun e w' => ∃ hp hc bp bc, e = .returned (.tuple #[.agg #[.string (str (rpM s).1.m), .string (str (rpM s).1.p), .slice hp (rpM s).1.h.length hc, .slice bp (rpM s).1.b.length bc], .int .i64 ((rpM s).2.1 : Int), .int .i64 ((rpM s).2.2 : Int)]) ∧ Hid (HdR w' hp (rpM s).1.h ∧ Bs w' bp bc (rpM s).1.b) ∧ Hid (Below w.heap.size w w') :=
  (rparse_new x cx s w hb hs).mono fun _ _ ⟨hp, hc, bp, bc, e, h, b⟩ => ⟨hp, hc, bp, bc, e, (unhide h).1, b⟩
#print axioms rparse
end Go.Proofs.YtonaekkenggmbaaGreatDoor
end
