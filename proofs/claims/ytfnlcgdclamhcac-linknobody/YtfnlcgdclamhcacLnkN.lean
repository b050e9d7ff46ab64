/-
  THE WALK OF LinkNobody.
-/
import Derived.Test.YtfnlcgdclamhcacLnkL
import Derived.Lib.SmallJoins
set_option linter.unusedVariables false
namespace Go.Proofs.Ytfnlcgdclamhcac
open Go.RowKit Go.Maps

/-- A net that no call made. -/
def NoNet (w : World) (p : Option Addr) : Prop := p = none ∨ ∃ Z, p = some ⟨Z, 0, none⟩ ∧ w.cell? ⟨Z, 0, none⟩ = some (.map none)

set_option maxRecDepth 20000 in
theorem nunmade (p : Option Addr) (w : World) (h : NoNet w p) : Calls Try.prog 28 #[.pointer p] w fun e w' => e = .returned (.bool true) ∧ w' = w := by
  rcases h with rfl | ⟨Z, rfl, hz⟩
  · go_enter Try.func28, Try.ntmps28
    go_wp2
    go_ret
    exact ⟨rfl, rfl⟩
  · have hq : (binOp .eql 61 (.map none) (.map none)).run Try.prog w = .ok (.bool true) w := by
      have := run_equal_map_nil (P := Try.prog) w 61 _ _ none Try.underlying61
      simp [binOp, this]
    go_enter Try.func28, Try.ntmps28
    go_wp2
    go_ret
    exact ⟨rfl, rfl⟩

theorem nconn (p : Option Addr) (x : Int) (w : World) (h : NoNet w p) : Calls Try.prog 42 #[.pointer p, .int .i64 x] w fun e w' => e = .returned (.tuple #[.pointer none, .int .i64 8]) ∧ w' = w := by
  go_enter Try.func42, Try.ntmps42
  go_wp2_with fail
  refine (nunmade p w h).mono ?_
  rintro e w' ⟨rfl, rfl⟩
  go_wp2
  go_ret2
  exact ⟨rfl, rfl⟩
theorem nfind (p : Option Addr) (x y : Int) (w : World) (h : NoNet w p) : Calls Try.prog 30 #[.pointer p, .int .i64 x, .int .i64 y] w fun e w' => e = .returned (.tuple #[.pointer none, .int .i64 0, .int .i64 8]) ∧ w' = w := by
  go_enter Try.func30, Try.ntmps30
  go_wp2_with fail
  refine (nconn p x w h).mono ?_
  rintro e w' ⟨rfl, rfl⟩
  go_wp2
  go_ret3
  exact ⟨rfl, rfl⟩
theorem ndial (p : Option Addr) (x : Int) (y : Int) (w : World) (h : NoNet w p) : Calls Try.prog 12 #[.pointer p, .int .i64 x, .int .i64 y] w fun e w' => e = .returned (.tuple #[.int .i64 0, .int .i64 8]) ∧ w' = w := by
  go_enter Try.func12, Try.ntmps12
  go_wp2_with fail
  refine (nunmade p w h).mono ?_
  rintro e w' ⟨rfl, rfl⟩
  go_wp2
  go_ret2
  exact ⟨rfl, rfl⟩
theorem ncarry (p : Option Addr) (x : Int) (y : Int) (z : Int) (w : World) (h : NoNet w p) : Calls Try.prog 14 #[.pointer p, .int .i64 x, .int .i64 y, .int .i64 z] w fun e w' => e = .returned (.tuple #[.slice none 0 0, .int .i64 8]) ∧ w' = w := by
  go_enter Try.func14, Try.ntmps14
  go_wp2_with fail
  refine (nfind p x y w h).mono ?_
  rintro e w' ⟨rfl, rfl⟩
  go_wp2
  go_ret2
  exact ⟨rfl, rfl⟩
theorem nends (p : Option Addr) (x : Int) (w : World) (h : NoNet w p) : Calls Try.prog 23 #[.pointer p, .int .i64 x] w fun e w' => e = .returned (.tuple #[.int .i64 0, .int .i64 0, .int .i64 8]) ∧ w' = w := by
  go_enter Try.func23, Try.ntmps23
  go_wp2_with fail
  refine (nconn p x w h).mono ?_
  rintro e w' ⟨rfl, rfl⟩
  go_wp2
  go_ret3
  exact ⟨rfl, rfl⟩
theorem nwaiting (p : Option Addr) (x : Int) (y : Int) (w : World) (h : NoNet w p) : Calls Try.prog 27 #[.pointer p, .int .i64 x, .int .i64 y] w fun e w' => e = .returned (.tuple #[.int .i64 0, .int .i64 8]) ∧ w' = w := by
  go_enter Try.func27, Try.ntmps27
  go_wp2_with fail
  refine (nfind p x y w h).mono ?_
  rintro e w' ⟨rfl, rfl⟩
  go_wp2
  go_ret2
  exact ⟨rfl, rfl⟩
theorem nsend (p : Option Addr) (x : Int) (y : Int) (w : World) (h : NoNet w p) : Calls Try.prog 13 #[.pointer p, .int .i64 x, .int .i64 y, .slice none 0 0] w fun e w' => e = .returned (.int .i64 8) ∧ w' = w := by
  go_enter Try.func13, Try.ntmps13
  go_wp2_with fail
  refine (nfind p x y w h).mono ?_
  rintro e w' ⟨rfl, rfl⟩
  go_wp2
  go_ret
  exact ⟨rfl, rfl⟩
theorem nclose (p : Option Addr) (x : Int) (y : Int) (w : World) (h : NoNet w p) : Calls Try.prog 15 #[.pointer p, .int .i64 x, .int .i64 y] w fun e w' => e = .returned (.int .i64 8) ∧ w' = w := by
  go_enter Try.func15, Try.ntmps15
  go_wp2_with fail
  refine (nfind p x y w h).mono ?_
  rintro e w' ⟨rfl, rfl⟩
  go_wp2
  go_ret
  exact ⟨rfl, rfl⟩
theorem ncut (p : Option Addr) (x : Int) (w : World) (h : NoNet w p) : Calls Try.prog 21 #[.pointer p, .int .i64 x] w fun e w' => e = .returned (.int .i64 8) ∧ w' = w := by
  go_enter Try.func21, Try.ntmps21
  go_wp2_with fail
  refine (nconn p x w h).mono ?_
  rintro e w' ⟨rfl, rfl⟩
  go_wp2
  go_ret
  exact ⟨rfl, rfl⟩
theorem ndone (p : Option Addr) (x : Int) (y : Int) (w : World) (h : NoNet w p) : Calls Try.prog 26 #[.pointer p, .int .i64 x, .int .i64 y] w fun e w' => e = .returned (.bool true) ∧ w' = w := by
  go_enter Try.func26, Try.ntmps26
  go_wp2_with fail
  refine (nfind p x y w h).mono ?_
  rintro e w' ⟨rfl, rfl⟩
  go_wp2
  go_ret
  exact ⟨rfl, rfl⟩
theorem nconns (p : Option Addr)  (w : World) (h : NoNet w p) : Calls Try.prog 19 #[.pointer p] w fun e w' => e = .returned (.slice none 0 0) ∧ w' = w := by
  go_enter Try.func19, Try.ntmps19
  go_wp2_with fail
  refine (nunmade p w h).mono ?_
  rintro e w' ⟨rfl, rfl⟩
  go_wp2
  go_ret
  exact ⟨rfl, rfl⟩
theorem NoNet.below {w w' : World} {p : Option Addr} (h : NoNet w p) (hb : Below w.heap.size w w') : NoNet w' p := by
  rcases h with h | ⟨Z, h, hz⟩
  · exact .inl h
  · exact .inr ⟨Z, h, by rw [hb.cell (World.block_lt_of_cell? w _ hz)]; exact hz⟩
theorem ndrop (p : Option Addr) (x : Int) (w : World) (h : NoNet w p) : Calls Try.prog 24 #[.pointer p, .int .i64 x] w fun e w' => e = .returned (.int .i64 0) ∧ Below w.heap.size w w' := by
  have hb : Below w.heap.size w (w.alloc (.cells #[.int .i64 x] 3)) := (Below.refl _ _).alloc (Nat.le_refl _) _
  go_enter Try.func24, Try.ntmps24
  go_wp2_with fail
  refine (nunmade p _ (h.below hb)).mono ?_
  rintro e w' ⟨rfl, rfl⟩
  go_wp2
  go_ret
  exact ⟨rfl, hb⟩

set_option maxRecDepth 20000 in
set_option maxHeartbeats 4000000 in
theorem linkNobody_walk (o i a b : Int) (x : Option Addr) (n c : Nat) (w : World) :
    Calls Try.prog 8 #[.agg #[.int .i64 o, .int .i64 i, .int .i64 a, .int .i64 b, .slice x n c]] w fun e w' => e = .returned (.bool true) ∧ Below w.heap.size w w' := by
  go_enter Try.func8, Try.ntmps8
  have hb0 : Below w.heap.size w (((w.alloc (.cells #[.int .i64 o, .int .i64 i, .int .i64 a, .int .i64 b, .slice x n c] 33)).alloc (.cells #[.map none, .int .i64 0] 63)).alloc (.cells #[.pointer none, .pointer (some ⟨w.heap.size + 1, 0, none⟩)] 25)) := (((Below.refl _ _).alloc (Nat.le_refl _) _).alloc (by simp) _).alloc (by simp; omega) _
  have hK : (((w.alloc (.cells #[.int .i64 o, .int .i64 i, .int .i64 a, .int .i64 b, .slice x n c] 33)).alloc (.cells #[.map none, .int .i64 0] 63)).alloc (.cells #[.pointer none, .pointer (some ⟨w.heap.size + 1, 0, none⟩)] 25)).heap[w.heap.size]? = some (.cells #[.int .i64 o, .int .i64 i, .int .i64 a, .int .i64 b, .slice x n c] 33 (0, 0)) := by
    rw [Below.heap_alloc _ _ _ (by simp; omega), Below.heap_alloc _ _ _ (by simp)]
    exact heap_alloc_new w _
  have hZ : (((w.alloc (.cells #[.int .i64 o, .int .i64 i, .int .i64 a, .int .i64 b, .slice x n c] 33)).alloc (.cells #[.map none, .int .i64 0] 63)).alloc (.cells #[.pointer none, .pointer (some ⟨w.heap.size + 1, 0, none⟩)] 25)).heap[w.heap.size + 1]? = some (.cells #[.map none, .int .i64 0] 63 (0, 0)) := by
    rw [Below.heap_alloc _ _ _ (by simp)]
    have := heap_alloc_new (w.alloc (.cells #[.int .i64 o, .int .i64 i, .int .i64 a, .int .i64 b, .slice x n c] 33)) (.cells #[.map none, .int .i64 0] 63)
    simpa using this
  have hV : (((w.alloc (.cells #[.int .i64 o, .int .i64 i, .int .i64 a, .int .i64 b, .slice x n c] 33)).alloc (.cells #[.map none, .int .i64 0] 63)).alloc (.cells #[.pointer none, .pointer (some ⟨w.heap.size + 1, 0, none⟩)] 25)).heap[w.heap.size + 1 + 1]? = some (.cells #[.pointer none, .pointer (some ⟨w.heap.size + 1, 0, none⟩)] 25 (0, 0)) := by
    have := heap_alloc_new ((w.alloc (.cells #[.int .i64 o, .int .i64 i, .int .i64 a, .int .i64 b, .slice x n c] 33)).alloc (.cells #[.map none, .int .i64 0] 63)) (.cells #[.pointer none, .pointer (some ⟨w.heap.size + 1, 0, none⟩)] 25)
    simpa using this
  go_wp2
  generalize ((w.alloc (.cells #[.int .i64 o, .int .i64 i, .int .i64 a, .int .i64 b, .slice x n c] 33)).alloc (.cells #[.map none, .int .i64 0] 63)).alloc (.cells #[.pointer none, .pointer (some ⟨w.heap.size + 1, 0, none⟩)] 25) = v at *
  obtain ⟨K, hKe⟩ : ∃ K, K = w.heap.size := ⟨_, rfl⟩
  obtain ⟨Z, hZe⟩ : ∃ Z, Z = w.heap.size + 1 := ⟨_, rfl⟩
  obtain ⟨V, hVe⟩ : ∃ V, V = w.heap.size + 1 + 1 := ⟨_, rfl⟩
  rw [← hVe, ← hZe] at hV
  rw [← hZe] at hZ
  rw [← hKe] at hK
  rw [← hVe, ← hZe, ← hKe]
  have HKe := hide hKe
  clear hKe hZe hVe
  have hN2 : NoNet v (some ⟨Z, 0, none⟩) := .inr ⟨Z, rfl, by rw [cell_of_row v Z 0 _ _ _ hZ]; rfl⟩
  have c1 : v.cell? ⟨K, 1, none⟩ = some (.int .i64 i) := by rw [cell_of_row v K 1 _ _ _ hK]; rfl
  have c2 : v.cell? ⟨K, 2, none⟩ = some (.int .i64 a) := by rw [cell_of_row v K 2 _ _ _ hK]; rfl
  have c3 : v.cell? ⟨K, 3, none⟩ = some (.int .i64 b) := by rw [cell_of_row v K 3 _ _ _ hK]; rfl
  have d0 : v.cell? ⟨V, 0, none⟩ = some (.pointer none) := by rw [cell_of_row v V 0 _ _ _ hV]; rfl
  have d1 : v.cell? ⟨V, 1, none⟩ = some (.pointer (some ⟨Z, 0, none⟩)) := by rw [cell_of_row v V 1 _ _ _ hV]; rfl
  have hN1 : ∀ u, NoNet u none := fun u => .inl rfl
  clear hK hZ hV
  refine wp_loop_rounds 3 ?_
  rw [rounds_succ]
  go_wp2_with fail
  refine (ndial none 0 1 _ (hN1 _)).mono ?_
  rintro e w' ⟨rfl, rfl⟩
  go_wp2_with fail
  refine (ncarry none i a b _ (hN1 _)).mono ?_
  rintro e w' ⟨rfl, rfl⟩
  go_wp2_with fail
  refine (nends none i _ (hN1 _)).mono ?_
  rintro e w' ⟨rfl, rfl⟩
  go_wp2_with fail
  refine (nwaiting none i a _ (hN1 _)).mono ?_
  rintro e w' ⟨rfl, rfl⟩
  go_wp2_with fail
  refine (nsend none i a _ (hN1 _)).mono ?_
  rintro e w' ⟨rfl, rfl⟩
  go_wp2_with fail
  refine (nclose none i a _ (hN1 _)).mono ?_
  rintro e w' ⟨rfl, rfl⟩
  go_wp2_with fail
  refine (ncut none i _ (hN1 _)).mono ?_
  rintro e w' ⟨rfl, rfl⟩
  go_wp2_with fail
  refine (ndrop none a _ (hN1 _)).mono ?_
  rintro e v1 ⟨rfl, hb1⟩
  rename_i v
  have hN2' := hN2.below hb1
  have c1' : v1.cell? ⟨K, 1, none⟩ = some (.int .i64 i) := by rw [hb1.cell (World.block_lt_of_cell? _ _ c1)]; exact c1
  have c2' : v1.cell? ⟨K, 2, none⟩ = some (.int .i64 a) := by rw [hb1.cell (World.block_lt_of_cell? _ _ c2)]; exact c2
  have c3' : v1.cell? ⟨K, 3, none⟩ = some (.int .i64 b) := by rw [hb1.cell (World.block_lt_of_cell? _ _ c3)]; exact c3
  have d1' : v1.cell? ⟨V, 1, none⟩ = some (.pointer (some ⟨Z, 0, none⟩)) := by rw [hb1.cell (World.block_lt_of_cell? _ _ d1)]; exact d1
  have hW1 := hb0.trans (hb1.mono hb0.size)
  clear c1 c2 c3 d0 d1 hN2 hb0 hb1
  go_wp2_with fail
  refine (ndone none i a _ (hN1 _)).mono ?_
  rintro e w' ⟨rfl, rfl⟩
  go_wp2_with fail
  refine (nconns none  _ (hN1 _)).mono ?_
  rintro e w' ⟨rfl, rfl⟩
  go_wp2
  rw [rounds_succ]
  go_wp2_with fail
  refine (ndial (some ⟨Z, 0, none⟩) 0 1 _ hN2').mono ?_
  rintro e w' ⟨rfl, rfl⟩
  go_wp2_with fail
  refine (ncarry (some ⟨Z, 0, none⟩) i a b _ hN2').mono ?_
  rintro e w' ⟨rfl, rfl⟩
  go_wp2_with fail
  refine (nends (some ⟨Z, 0, none⟩) i _ hN2').mono ?_
  rintro e w' ⟨rfl, rfl⟩
  go_wp2_with fail
  refine (nwaiting (some ⟨Z, 0, none⟩) i a _ hN2').mono ?_
  rintro e w' ⟨rfl, rfl⟩
  go_wp2_with fail
  refine (nsend (some ⟨Z, 0, none⟩) i a _ hN2').mono ?_
  rintro e w' ⟨rfl, rfl⟩
  go_wp2_with fail
  refine (nclose (some ⟨Z, 0, none⟩) i a _ hN2').mono ?_
  rintro e w' ⟨rfl, rfl⟩
  go_wp2_with fail
  refine (ncut (some ⟨Z, 0, none⟩) i _ hN2').mono ?_
  rintro e w' ⟨rfl, rfl⟩
  go_wp2_with fail
  refine (ndrop (some ⟨Z, 0, none⟩) a _ hN2').mono ?_
  rintro e v2 ⟨rfl, hb2⟩
  have hN2'' := hN2'.below hb2
  rename_i v1
  have c1'' : v2.cell? ⟨K, 1, none⟩ = some (.int .i64 i) := by rw [hb2.cell (World.block_lt_of_cell? _ _ c1')]; exact c1'
  have c2'' : v2.cell? ⟨K, 2, none⟩ = some (.int .i64 a) := by rw [hb2.cell (World.block_lt_of_cell? _ _ c2')]; exact c2'
  have hW2 := hW1.trans (hb2.mono hW1.size)
  clear c1' c2' c3' d1' hN2' hb2 hW1
  go_wp2_with fail
  refine (ndone (some ⟨Z, 0, none⟩) i a _ hN2'').mono ?_
  rintro e w' ⟨rfl, rfl⟩
  go_wp2_with fail
  refine (nconns (some ⟨Z, 0, none⟩)  _ hN2'').mono ?_
  rintro e w' ⟨rfl, rfl⟩
  go_wp2
  rw [rounds_succ]
  go_wp2_with fail
  refine (awake_true _).mono ?_
  rintro e v3 ⟨rfl, hb3⟩
  have hW3 := hW2.trans (hb3.mono hW2.size)
  go_wp2
  go_ret
  exact ⟨rfl, hW3⟩
#print axioms linkNobody_walk
end Go.Proofs.Ytfnlcgdclamhcac
