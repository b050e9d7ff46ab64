/-
  httpd: a parser that no call made; HttpdNobody's walk.
-/
import Derived.Test.YthkadboeokgjnacGreatDoorHlB
set_option linter.unusedVariables false
set_option maxRecDepth 1000000
namespace Go.Proofs.YthkadboeokgjnacGreatDoor
open Go.RowKit

/-- No call made it. -/
def Un (w : World) (v : Value) : Prop := v = .pointer none ∨ ∃ Z, v = .pointer (some ⟨Z, 0, none⟩) ∧ w.cell? ⟨Z, 0, none⟩ = some (.pointer none)
theorem Un.below {w w' : World} {B : Nat} {v : Value} (h : Un w v) (hb : Below B w w') (hB : w.heap.size ≤ B) : Un w' v := by
  rcases h with h | ⟨Z, h, c⟩
  · exact .inl h
  · exact .inr ⟨Z, h, by rw [hb.cell (Nat.lt_of_lt_of_le (World.block_lt_of_cell? w _ c) hB)]; exact c⟩
set_option maxHeartbeats 1000000 in
theorem unmade_any (v : Value) (w : World) (h : Un w v) : Calls Tryz.prog 11 #[v] w fun e w' => e = .returned (.bool true) ∧ w' = w := by
  rcases h with rfl | ⟨Z, rfl, c0⟩
  · go_enter Tryz.func11, Tryz.ntmps11
    go_wp2
    go_ret
    exact ⟨rfl, rfl⟩
  · go_enter Tryz.func11, Tryz.ntmps11
    go_wp2
    go_ret
    exact ⟨rfl, rfl⟩
set_option maxHeartbeats 1000000 in
theorem nextU (v : Value) (w : World) (h : Un w v) : Calls Tryz.prog 4 #[v] w fun e w' => e = .returned (.tuple #[.agg #[.string ⟨#[]⟩, .string ⟨#[]⟩, .slice none 0 0, .slice none 0 0], .int .i64 1]) ∧ Hid (Below w.heap.size w w') := by
  obtain ⟨V, hV⟩ : ∃ V, V = w.alloc (.cells #[.string ⟨#[]⟩, .string ⟨#[]⟩, .slice none 0 0, .slice none 0 0] 30) := ⟨_, rfl⟩
  have hbV : Below w.heap.size w V := by rw [hV]; exact (Below.refl _ _).alloc (Nat.le_refl _) _
  have HU := hide (unmade_any v V (h.below hbV (Nat.le_refl _)))
  have hres : V.heap[w.heap.size]? = some (.cells #[.string ⟨#[]⟩, .string ⟨#[]⟩, .slice none 0 0, .slice none 0 0] 30 (0, 0)) := by rw [hV]; exact heap_alloc_new w _
  have r0 : V.cell? ⟨w.heap.size, 0, none⟩ = some (.string ⟨#[]⟩) := by rw [cell_of_row V _ 0 _ _ _ hres]; rfl
  have r1 : V.cell? ⟨w.heap.size, 1, none⟩ = some (.string ⟨#[]⟩) := by rw [cell_of_row V _ 1 _ _ _ hres]; rfl
  have r2 : V.cell? ⟨w.heap.size, 2, none⟩ = some (.slice none 0 0) := by rw [cell_of_row V _ 2 _ _ _ hres]; rfl
  have r3 : V.cell? ⟨w.heap.size, 3, none⟩ = some (.slice none 0 0) := by rw [cell_of_row V _ 3 _ _ _ hres]; rfl
  have z0 := frozen_of_row V w.heap.size 0 _ _ hres
  have z1 := frozen_of_row V w.heap.size 1 _ _ hres
  have z2 := frozen_of_row V w.heap.size 2 _ _ hres
  have z3 := frozen_of_row V w.heap.size 3 _ _ hres
  obtain ⟨W, hW⟩ : ∃ W, W = (((V.setCell ⟨w.heap.size, 0, none⟩ (.string ⟨#[]⟩)).setCell ⟨w.heap.size, 1, none⟩ (.string ⟨#[]⟩)).setCell ⟨w.heap.size, 2, none⟩ (.slice none 0 0)).setCell ⟨w.heap.size, 3, none⟩ (.slice none 0 0) := ⟨_, rfl⟩
  have hrw : W.heap[w.heap.size]? = some (.cells #[.string ⟨#[]⟩, .string ⟨#[]⟩, .slice none 0 0, .slice none 0 0] 30 (0, 0)) := by
    rw [hW, heap_setCell_same _ _ 3 _ _ _ (heap_setCell_same _ _ 2 _ _ _ (heap_setCell_same _ _ 1 _ _ _ (heap_setCell_same _ _ 0 _ _ _ hres)))]; rfl
  have hne : ∀ k, k ≠ w.heap.size → W.heap[k]? = V.heap[k]? := fun k hk => by
    rw [hW, Below.heap_setCell _ ⟨w.heap.size, 3, none⟩ _ k hk, Below.heap_setCell _ ⟨w.heap.size, 2, none⟩ _ k hk, Below.heap_setCell _ ⟨w.heap.size, 1, none⟩ _ k hk, Below.heap_setCell _ ⟨w.heap.size, 0, none⟩ _ k hk]
  have hszW : W.heap.size = V.heap.size := by rw [hW]; simp [World.setCell]
  have HBW : Hid (Below w.heap.size w W) := by
    refine ⟨?_, ?_, ?_, by rw [hszW]; exact hbV.size, fun k hk => (hne k (by omega)).trans (hbV.block k hk)⟩
    · rw [hW]; exact hbV.os
    · rw [hW]; exact hbV.tape
    · rw [hW]; exact hbV.output
  have c0 : W.cell? ⟨w.heap.size, 0, none⟩ = some (.string ⟨#[]⟩) := by rw [cell_of_row W _ 0 _ _ _ hrw]; rfl
  have c1 : W.cell? ⟨w.heap.size, 1, none⟩ = some (.string ⟨#[]⟩) := by rw [cell_of_row W _ 1 _ _ _ hrw]; rfl
  have c2 : W.cell? ⟨w.heap.size, 2, none⟩ = some (.slice none 0 0) := by rw [cell_of_row W _ 2 _ _ _ hrw]; rfl
  have c3 : W.cell? ⟨w.heap.size, 3, none⟩ = some (.slice none 0 0) := by rw [cell_of_row W _ 3 _ _ _ hrw]; rfl
  clear hbV hres hrw hne hszW h
  go_enter Tryz.func4, Tryz.ntmps4
  go_upto_region 1 with fail
  rw [← hV]
  clear hV
  go_wp2_with fail
  refine (unhide HU).mono ?_
  rintro e w2 ⟨rfl, rfl⟩
  clear HU
  go_wp2
  rw [← hW]
  refine bodyPost_ret (v := .tuple #[.agg #[.string ⟨#[]⟩, .string ⟨#[]⟩, .slice none 0 0, .slice none 0 0], .int .i64 1]) (by simp [results, Tryz.results4, go_sem, c0, c1, c2, c3]) rfl ⟨rfl, HBW⟩
set_option maxHeartbeats 1000000 in
theorem feedU (v : Value) (x : Value) (w : World) (h : Un w v) : Calls Tryz.prog 5 #[v, x] w fun e w' => e = .returned (.int .i64 8) ∧ w' = w := by
  have HU := hide (unmade_any v w h)
  clear h
  go_enter Tryz.func5, Tryz.ntmps5
  go_wp2_with fail
  refine (unhide HU).mono ?_
  rintro e w' ⟨rfl, rfl⟩
  go_wp2
  go_ret
  exact ⟨rfl, rfl⟩
set_option maxHeartbeats 1000000 in
theorem waitingU (v : Value) (w : World) (h : Un w v) : Calls Tryz.prog 8 #[v] w fun e w' => e = .returned (.int .i64 0) ∧ w' = w := by
  have HU := hide (unmade_any v w h)
  clear h
  go_enter Tryz.func8, Tryz.ntmps8
  go_wp2_with fail
  refine (unhide HU).mono ?_
  rintro e w' ⟨rfl, rfl⟩
  go_wp2
  go_ret
  exact ⟨rfl, rfl⟩
set_option maxHeartbeats 1000000 in
theorem restU (v : Value) (w : World) (h : Un w v) : Calls Tryz.prog 9 #[v] w fun e w' => e = .returned (.slice none 0 0) ∧ w' = w := by
  have HU := hide (unmade_any v w h)
  clear h
  go_enter Tryz.func9, Tryz.ntmps9
  go_wp2_with fail
  refine (unhide HU).mono ?_
  rintro e w' ⟨rfl, rfl⟩
  go_wp2
  go_ret
  exact ⟨rfl, rfl⟩
set_option maxHeartbeats 400000 in
theorem sclone_big (a : Option Addr) (n cap : Nat) (l : List UInt8) (w : World) (hr : Bs w a cap l) (hn : n = l.length) (hl : l.length ≤ 140737488355328) :
    Calls Tryz.prog 6 #[.slice a n cap] w fun e w' => ∃ a' cap' r, e = .returned (.slice a' r.length cap') ∧ Hid (r = l) ∧ OwnB w' w.heap.size a' cap' r ∧ Below w.heap.size w w' := by
  have hq := fun (wx : World) (a : Option Addr) (n c : Nat) => Lib.run_eql_slice_nil (P := Tryz.prog) wx 22 5 a n c 0 0 Tryz.underlying22
  cases a with
  | none =>
    have hl0 : l = [] := by
      apply Classical.byContradiction
      intro hne
      obtain ⟨b, off, hh, _⟩ := hr.row hne
      cases hh
    subst hl0
    go_enter Tryz.func6, Tryz.ntmps6
    go_wp2
    go_ret
    exact ⟨none, 0, [], rfl, rfl, OwnB.nil _ _, Below.refl _ _⟩
  | some ad =>
    subst hn
    go_enter Tryz.func6, Tryz.ntmps6
    go_wp2_with (at_builtin; refine wp_app _ rfl _ _ rfl w.heap.size (some ⟨w.heap.size, 0, none⟩) 0 [] rfl (own_empty w _ (Nat.le_refl _)) (some ad) cap l _ rfl rfl (hr.row.alloc _) (fun h => by cases h) ?c3 ?c4 ?_)
    case c3 => simp; omega
    case c4 => simp
    intro a2 cap2 r2 w2 hr2 ho2 hg2
    have hb2 : Below w.heap.size w w2 := below_grown (a := some ⟨w.heap.size, 0, none⟩) ((Below.refl _ _).alloc (Nat.le_refl _) _) hg2 (Nat.le_refl _) (fun k hk => by simp [blk] at hk; omega)
    have HR : Hid (r2 = l) := by
      show _ = _
      rw [hr2.out]
    clear hr2 hg2
    go_wp2
    go_ret
    exact ⟨a2, cap2, r2, rfl, HR, ho2, hb2⟩
set_option maxHeartbeats 4000000 in
theorem nobody_any (w : World) (hE : EnvH w) (a1 : Option Addr) (c1 : Nat) (b : List UInt8) (h1 : Bs w a1 c1 b) (hl : b.length ≤ 140737488355328) :
    Calls Tryz.prog 3 #[.slice a1 b.length c1] w fun e w' => e = .returned (.bool true) ∧ Hid (Below w.heap.size w w') := by
  obtain ⟨o, ho⟩ : ∃ o, o = Obj.cells #[.pointer none, .slice none 0 0, .int .i64 0, .int .i64 0] 26 := ⟨_, rfl⟩
  obtain ⟨X, hX⟩ : ∃ X, X = (w.alloc o).alloc (.cells #[.pointer none, .pointer (some ⟨w.heap.size, 0, none⟩)] 23) := ⟨_, rfl⟩
  have hs2 : (w.alloc o).heap.size = w.heap.size + 1 := by simp
  have hbX : Below w.heap.size w X := by rw [hX]; exact ((Below.refl _ _).alloc (Nat.le_refl _) _).alloc (by omega) _
  have hvX : X.heap[w.heap.size + 1]? = some (.cells #[.pointer none, .pointer (some ⟨w.heap.size, 0, none⟩)] 23 (0, 0)) := by rw [hX, ← hs2]; exact heap_alloc_new _ _
  have hrX : X.heap[w.heap.size]? = some (.cells #[.pointer none, .slice none 0 0, .int .i64 0, .int .i64 0] 26 (0, 0)) := by rw [hX, Below.heap_alloc _ _ _ (by omega), ho]; exact heap_alloc_new w _
  have HEX : Hid (EnvH X) := hE.below hbX
  have HBX : Hid (Below w.heap.size w X) := hbX
  have HB1 : Hid (Bs X a1 c1 b) := h1.below hbX (Nat.le_refl _)
  have HEL : Hid (∀ k : Nat, k < 2 → ∃ v, X.cell? ⟨w.heap.size + 1, k, none⟩ = some v ∧ Un X v) := fun k hk => by
    match k, hk with
    | 0, _ => exact ⟨_, cell_of_row _ _ _ _ _ _ hvX, .inl rfl⟩
    | 1, _ => exact ⟨_, cell_of_row _ _ _ _ _ _ hvX, .inr ⟨_, rfl, cell_of_row _ _ _ _ _ _ hrX⟩⟩
  rw [ho] at hX
  clear hE h1 ho o hs2 hbX hvX hrX
  go_enter Tryz.func3, Tryz.ntmps3
  go_wp2_with fail
  rw [← hX]
  clear hX
  go_loopw [11] (fun i wr => ∃ k : Nat, k ≤ 2 ∧ i = .int .i64 (k : Int) ∧ Hid (Below X.heap.size X wr)) (fun i _ => 2 - (intOf i).toNat)
  case atStart => exact ⟨0, Nat.zero_le _, rfl, Below.refl _ _⟩
  case round =>
    obtain ⟨k, hk, rfl, HB⟩ := hrel
    by_cases hlt : k < 2
    · have hlt' : (k : Int) < 2 := by omega
      obtain ⟨v, hcX, hun⟩ := unhide HEL k hlt
      have hcv : wr.cell? ⟨w.heap.size + 1, k, none⟩ = some v := by rw [(unhide HB).cell (World.block_lt_of_cell? X _ hcX)]; exact hcX
      have HN := hide (nextU v wr (hun.below (unhide HB) (Nat.le_refl _)))
      have HUN := hide hun
      clear hcX hun
      go_wp2_with fail
      refine (unhide HN).mono ?_
      rintro e W1 ⟨rfl, HB1'⟩
      clear HN
      obtain ⟨o, ho⟩ : ∃ o, o = Obj.cells #[.string ⟨#[]⟩, .string ⟨#[]⟩, .slice none 0 0, .slice none 0 0] 30 := ⟨_, rfl⟩
      have hX1 : Below X.heap.size X (W1.alloc o) := ((unhide HB).trans ((unhide HB1').mono (unhide HB).size)).alloc (Nat.le_trans (unhide HB).size (unhide HB1').size) _
      have HC := hide (sclone_big a1 b.length c1 b (W1.alloc o) ((unhide HB1).below hX1 (Nat.le_refl _)) rfl hl)
      have HX1 := hide hX1
      have HrU := hide (show (W1.alloc o).heap[W1.heap.size]? = some (.cells #[.string ⟨#[]⟩, .string ⟨#[]⟩, .slice none 0 0, .slice none 0 0] 30 (0, 0)) by rw [ho]; exact heap_alloc_new W1 _)
      have HLT : Hid (W1.heap.size < (W1.alloc o).heap.size) := by show _ < _; simp
      rw [ho] at HC HX1 HrU HLT
      clear ho hX1 o HB HB1'
      go_wp2_with fail
      refine (unhide HC).mono ?_
      rintro e W2 ⟨a3, c3, r, rfl, HRR, hoZ, hbZ⟩
      have HB2 := hide hbZ
      have HX2 : Hid (Below X.heap.size X W2) := (unhide HX1).trans (hbZ.mono (unhide HX1).size)
      have HF := hide (feedU v (.slice a3 r.length c3) W2 ((unhide HUN).below (unhide HX2) (Nat.le_refl _)))
      have hrY := (hbZ.block _ (unhide HLT)).trans (unhide HrU)
      have q0 : W2.cell? ⟨W1.heap.size, 0, none⟩ = some (.string ⟨#[]⟩) := cell_of_row _ _ _ _ _ _ hrY
      have q1 : W2.cell? ⟨W1.heap.size, 1, none⟩ = some (.string ⟨#[]⟩) := cell_of_row _ _ _ _ _ _ hrY
      have q2 : W2.cell? ⟨W1.heap.size, 2, none⟩ = some (.slice none 0 0) := cell_of_row _ _ _ _ _ _ hrY
      have q3 : W2.cell? ⟨W1.heap.size, 3, none⟩ = some (.slice none 0 0) := cell_of_row _ _ _ _ _ _ hrY
      clear HC hoZ hbZ hrY HX1 HrU HLT HRR HB2
      go_wp2_with fail
      refine (unhide HF).mono ?_
      rintro e W2' ⟨rfl, rfl⟩
      clear HF
      go_wp2_with fail
      refine (same_eq [] [] [] [] none none none none 0 0 0 0 _ ⟨fun h => absurd rfl h, Nat.zero_le _⟩ ⟨fun h => absurd rfl h, Nat.zero_le _⟩ ⟨fun h => absurd rfl h, Nat.zero_le _, Nat.zero_le _, fun _ => rfl⟩ ⟨fun h => absurd rfl h, Nat.zero_le _, Nat.zero_le _, fun _ => rfl⟩ (by decide) (by decide)).mono ?_
      rintro e W3 ⟨rfl, HB3⟩
      have HX3 : Hid (Below X.heap.size X W3) := (unhide HX2).trans ((unhide HB3).mono (unhide HX2).size)
      have HW := hide (waitingU v W3 ((unhide HUN).below (unhide HX3) (Nat.le_refl _)))
      have HR := hide (restU v W3 ((unhide HUN).below (unhide HX3) (Nat.le_refl _)))
      clear q0 q1 q2 q3 HX2 HB3
      go_wp2_with fail
      refine (unhide HW).mono ?_
      rintro e W4 ⟨rfl, rfl⟩
      go_wp2_with fail
      refine (unhide HR).mono ?_
      rintro e W5 ⟨rfl, rfl⟩
      clear HW HR
      go_wp2_with fail
      go_roundw
      case rel => exact ⟨k + 1, by omega, by go_num, HX3⟩
      case measure => simp [intOf]; omega
    · obtain rfl : k = 2 := by omega
      have HAW := hide (awake8_any wr ((unhide HEX).below (unhide HB)))
      clear hlt
      go_wp2_with fail
      refine (unhide HAW).mono ?_
      rintro e V2 ⟨rfl, HB2⟩
      go_wp2_with fail
      go_ret
      exact ⟨rfl, hide (((unhide HBX).trans ((unhide HB).mono (unhide HBX).size)).trans ((unhide HB2).mono (Nat.le_trans (unhide HBX).size (unhide HB).size)))⟩
theorem httpdNobody_walk (a0 : Option Addr) (c0 : Nat) (l0 : List UInt8) (w : World) (h0 : Bs w a0 c0 l0) (hl : l0.length ≤ 140737488355328) (hE : EnvH w) :
    Calls Tryz.prog 3 #[.slice a0 l0.length c0] w fun e w' => e = .returned (.bool true) ∧ Below w.heap.size w w' :=
  (nobody_any w hE a0 c0 l0 h0 hl).mono fun e w' h => ⟨h.1, unhide h.2⟩
#print axioms httpdNobody_walk
end Go.Proofs.YthkadboeokgjnacGreatDoor
