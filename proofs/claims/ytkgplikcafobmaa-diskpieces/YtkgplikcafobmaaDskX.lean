/-
  THE WALK OF DiskNobody.
-/
import Derived.Test.YtkgplikcafobmaaDskW
set_option linter.unusedVariables false
namespace Go.Proofs.Ytkgplikcafobmaa
open Go.RowKit Go.Maps

theorem NoDisk.below {w w' : World} {p : Option Addr} (h : NoDisk w p) (hb : Below w.heap.size w w') : NoDisk w' p := by
  rcases h with h | ⟨Z, h, hz⟩
  · exact .inl h
  · exact .inr ⟨Z, h, by rw [hb.cell (World.block_lt_of_cell? w _ hz)]; exact hz⟩
theorem nthere (p : Option Addr) (s : ByteArray) (w : World) (h : NoDisk w p) : Calls Try.prog 27 #[.pointer p, .string s] w fun e w' => e = .returned (.int .i64 8) ∧ w' = w := by
  go_enter Try.func27, Try.ntmps27
  go_wp2_with fail
  refine (named_no p s w h).mono ?_
  rintro e w' ⟨rfl, rfl⟩
  go_wp2
  go_ret
  exact ⟨rfl, rfl⟩
theorem nread (p : Option Addr) (s : ByteArray) (w : World) (h : NoDisk w p) : Calls Try.prog 9 #[.pointer p, .string s] w fun e w' => e = .returned (.tuple #[.slice none 0 0, .int .i64 8]) ∧ w' = w := by
  go_enter Try.func9, Try.ntmps9
  go_wp2_with fail
  refine (nthere p s w h).mono ?_
  rintro e w' ⟨rfl, rfl⟩
  go_wp2
  go_ret2
  exact ⟨rfl, rfl⟩
theorem ncut (p : Option Addr) (s : ByteArray) (z : Int) (w : World) (h : NoDisk w p) : Calls Try.prog 29 #[.pointer p, .string s, .int .i64 z] w fun e w' => e = .returned (.int .i64 8) ∧ w' = w := by
  go_enter Try.func29, Try.ntmps29
  go_wp2_with fail
  refine (nthere p s w h).mono ?_
  rintro e w' ⟨rfl, rfl⟩
  go_wp2
  go_ret
  exact ⟨rfl, rfl⟩
theorem ndrop (p : Option Addr) (s : ByteArray) (w : World) (h : NoDisk w p) : Calls Try.prog 30 #[.pointer p, .string s] w fun e w' => e = .returned (.int .i64 8) ∧ w' = w := by
  go_enter Try.func30, Try.ntmps30
  go_wp2_with fail
  refine (nthere p s w h).mono ?_
  rintro e w' ⟨rfl, rfl⟩
  go_wp2
  go_ret
  exact ⟨rfl, rfl⟩
theorem nwrite (p : Option Addr) (s : ByteArray) (x : Option Addr) (n c : Nat) (w : World) (h : NoDisk w p) : Calls Try.prog 22 #[.pointer p, .string s, .slice x n c] w fun e w' => e = .returned (.int .i64 8) ∧ w' = w := by
  go_enter Try.func22, Try.ntmps22
  go_wp2_with fail
  refine (named_no p s w h).mono ?_
  rintro e w' ⟨rfl, rfl⟩
  go_wp2
  go_ret
  exact ⟨rfl, rfl⟩
theorem nflush (p : Option Addr)  (w : World) (h : NoDisk w p) : Calls Try.prog 11 #[.pointer p] w fun e w' => e = .returned (.int .i64 8) ∧ w' = w := by
  go_enter Try.func11, Try.ntmps11
  go_wp2_with fail
  refine (unmade_yes p w h).mono ?_
  rintro e w' ⟨rfl, rfl⟩
  go_wp2
  go_ret
  exact ⟨rfl, rfl⟩
theorem nlist (p : Option Addr)  (w : World) (h : NoDisk w p) : Calls Try.prog 13 #[.pointer p] w fun e w' => e = .returned (.slice none 0 0) ∧ w' = w := by
  go_enter Try.func13, Try.ntmps13
  go_wp2_with fail
  refine (unmade_yes p w h).mono ?_
  rintro e w' ⟨rfl, rfl⟩
  go_wp2
  go_ret
  exact ⟨rfl, rfl⟩
theorem npending (p : Option Addr)  (w : World) (h : NoDisk w p) : Calls Try.prog 14 #[.pointer p] w fun e w' => e = .returned (.int .i64 0) ∧ w' = w := by
  go_enter Try.func14, Try.ntmps14
  go_wp2_with fail
  refine (unmade_yes p w h).mono ?_
  rintro e w' ⟨rfl, rfl⟩
  go_wp2
  go_ret
  exact ⟨rfl, rfl⟩
theorem nused (p : Option Addr)  (w : World) (h : NoDisk w p) : Calls Try.prog 15 #[.pointer p] w fun e w' => e = .returned (.int .i64 0) ∧ w' = w := by
  go_enter Try.func15, Try.ntmps15
  go_wp2_with fail
  refine (unmade_yes p w h).mono ?_
  rintro e w' ⟨rfl, rfl⟩
  go_wp2
  go_ret
  exact ⟨rfl, rfl⟩
theorem nroom (p : Option Addr)  (w : World) (h : NoDisk w p) : Calls Try.prog 16 #[.pointer p] w fun e w' => e = .returned (.int .i64 0) ∧ w' = w := by
  go_enter Try.func16, Try.ntmps16
  go_wp2_with fail
  refine (unmade_yes p w h).mono ?_
  rintro e w' ⟨rfl, rfl⟩
  go_wp2
  go_ret
  exact ⟨rfl, rfl⟩
theorem ncrash (p : Option Addr) (x : Option Addr) (n c : Nat) (z : Int) (w : World) (h : NoDisk w p) : Calls Try.prog 20 #[.pointer p, .slice x n c, .int .i64 z] w fun e w' => e = .returned (.int .i64 8) ∧ w' = w := by
  go_enter Try.func20, Try.ntmps20
  go_wp2_with fail
  refine (unmade_yes p w h).mono ?_
  rintro e w' ⟨rfl, rfl⟩
  go_wp2
  go_ret
  exact ⟨rfl, rfl⟩
theorem nclone (p : Option Addr)  (w : World) (h : NoDisk w p) : Calls Try.prog 12 #[.pointer p] w fun e w' => e = .returned (.pointer none) ∧ w' = w := by
  go_enter Try.func12, Try.ntmps12
  go_wp2_with fail
  refine (unmade_yes p w h).mono ?_
  rintro e w' ⟨rfl, rfl⟩
  go_wp2
  go_ret
  exact ⟨rfl, rfl⟩
theorem nsync (p : Option Addr) (s : ByteArray) (w : World) (h : NoDisk w p) : Calls Try.prog 26 #[.pointer p, .string s] w fun e w' => e = .returned (.int .i64 8) ∧ Below w.heap.size w w' := by
  have hb : Below w.heap.size w (w.alloc (.cells #[.string s] 9)) := (Below.refl _ _).alloc (Nat.le_refl _) _
  go_enter Try.func26, Try.ntmps26
  go_wp2_with fail
  refine (nthere p s _ (h.below hb)).mono ?_
  rintro e w' ⟨rfl, rfl⟩
  go_wp2
  go_ret
  exact ⟨rfl, hb⟩

/-- Which call a Do is. -/
theorem op8 (o : Int) : ∃ r : Nat, r < 8 ∧ wrap64 ((IntKind.u64.wrap o).tmod 8) = (r : Int) ∧ r = (o % 8).toNat := by
  have e : IntKind.u64.wrap o = o % 18446744073709551616 := by simp [IntKind.wrap, IntKind.bits, IntKind.signed]
  have h0 : 0 ≤ o % 18446744073709551616 := Int.emod_nonneg _ (by omega)
  have e2 : (o % 18446744073709551616).tmod 8 = o % 18446744073709551616 % 8 := Int.tmod_eq_emod_of_nonneg h0
  refine ⟨(o % 8).toNat, by omega, ?_, rfl⟩
  rw [e, e2]
  have e3 : o % 18446744073709551616 % 8 = o % 8 := by omega
  rw [e3, IntWalk.wrap64_in _ (by omega)]
  omega

set_option maxRecDepth 20000 in
set_option maxHeartbeats 4000000 in
theorem ndoes (p : Option Addr) (o : Int) (s : ByteArray) (x : Option Addr) (n c : Nat) (z : Int) (y : Option Addr) (m k : Nat) (w : World) (h : NoDisk w p) :
    Calls Try.prog 10 #[.pointer p, .agg #[.int .i64 o, .string s, .slice x n c, .int .i64 z, .slice y m k]] w fun e w' => e = .returned (.int .i64 8) ∧ Below w.heap.size w w' := by
  have hb : Below w.heap.size w (w.alloc (.cells #[.int .i64 o, .string s, .slice x n c, .int .i64 z, .slice y m k] 25)) := (Below.refl _ _).alloc (Nat.le_refl _) _
  have hx := h.below hb
  obtain ⟨r, h8, hr, -⟩ := op8 o
  go_enter Try.func10, Try.ntmps10
  match r, h8 with
  | 0, _ =>
    have hr : wrap64 ((IntKind.u64.wrap o).tmod 8) = 0 := hr
    go_wp2_with fail
    refine (nwrite p s x n c _ hx).mono ?_
    rintro e w' ⟨rfl, rfl⟩
    go_wp2
    go_ret
    exact ⟨rfl, hb⟩
  | 1, _ =>
    have hr : wrap64 ((IntKind.u64.wrap o).tmod 8) = 1 := hr
    go_wp2_with fail
    refine (nwrite p s x n c _ hx).mono ?_
    rintro e w' ⟨rfl, rfl⟩
    go_wp2
    go_ret
    exact ⟨rfl, hb⟩
  | 2, _ =>
    have hr : wrap64 ((IntKind.u64.wrap o).tmod 8) = 2 := hr
    go_wp2_with fail
    refine (nwrite p s x n c _ hx).mono ?_
    rintro e w' ⟨rfl, rfl⟩
    go_wp2
    go_ret
    exact ⟨rfl, hb⟩
  | 3, _ =>
    have hr : wrap64 ((IntKind.u64.wrap o).tmod 8) = 3 := hr
    go_wp2_with fail
    refine (ncut p s z _ hx).mono ?_
    rintro e w' ⟨rfl, rfl⟩
    go_wp2
    go_ret
    exact ⟨rfl, hb⟩
  | 4, _ =>
    have hr : wrap64 ((IntKind.u64.wrap o).tmod 8) = 4 := hr
    go_wp2_with fail
    refine (ndrop p s _ hx).mono ?_
    rintro e w' ⟨rfl, rfl⟩
    go_wp2
    go_ret
    exact ⟨rfl, hb⟩
  | 5, _ =>
    have hr : wrap64 ((IntKind.u64.wrap o).tmod 8) = 5 := hr
    go_wp2_with fail
    refine (nsync p s _ hx).mono ?_
    rintro e w' ⟨rfl, hb'⟩
    go_wp2
    go_ret
    exact ⟨rfl, hb.trans (hb'.mono hb.size)⟩
  | 6, _ =>
    have hr : wrap64 ((IntKind.u64.wrap o).tmod 8) = 6 := hr
    go_wp2_with fail
    refine (nflush p _ hx).mono ?_
    rintro e w' ⟨rfl, rfl⟩
    go_wp2
    go_ret
    exact ⟨rfl, hb⟩
  | 7, _ =>
    have hr : wrap64 ((IntKind.u64.wrap o).tmod 8) = 7 := hr
    go_wp2_with fail
    refine (ncrash p y m k z _ hx).mono ?_
    rintro e w' ⟨rfl, rfl⟩
    go_wp2
    go_ret
    exact ⟨rfl, hb⟩

set_option maxRecDepth 20000 in
set_option maxHeartbeats 4000000 in
theorem diskNobody_walk (o : Int) (s : ByteArray) (x : Option Addr) (n c : Nat) (z : Int) (y : Option Addr) (m k : Nat) (w : World) :
    Calls Try.prog 3 #[.agg #[.int .i64 o, .string s, .slice x n c, .int .i64 z, .slice y m k]] w fun e w' => e = .returned (.bool true) ∧ Below w.heap.size w w' := by
  go_enter Try.func3, Try.ntmps3
  have hb0 : Below w.heap.size w (((w.alloc (.cells #[.int .i64 o, .string s, .slice x n c, .int .i64 z, .slice y m k] 25)).alloc (.cells #[.int .i64 0, .map none, .map none, .slice none 0 0, .map none, .int .i64 0] 32)).alloc (.cells #[.pointer none, .pointer (some ⟨w.heap.size + 1, 0, none⟩)] 26)) := (((Below.refl _ _).alloc (Nat.le_refl _) _).alloc (by simp) _).alloc (by simp; omega) _
  have hK : (((w.alloc (.cells #[.int .i64 o, .string s, .slice x n c, .int .i64 z, .slice y m k] 25)).alloc (.cells #[.int .i64 0, .map none, .map none, .slice none 0 0, .map none, .int .i64 0] 32)).alloc (.cells #[.pointer none, .pointer (some ⟨w.heap.size + 1, 0, none⟩)] 26)).heap[w.heap.size]? = some (.cells #[.int .i64 o, .string s, .slice x n c, .int .i64 z, .slice y m k] 25 (0, 0)) := by
    rw [Below.heap_alloc _ _ _ (by simp; omega), Below.heap_alloc _ _ _ (by simp)]
    exact heap_alloc_new w _
  have hZ : (((w.alloc (.cells #[.int .i64 o, .string s, .slice x n c, .int .i64 z, .slice y m k] 25)).alloc (.cells #[.int .i64 0, .map none, .map none, .slice none 0 0, .map none, .int .i64 0] 32)).alloc (.cells #[.pointer none, .pointer (some ⟨w.heap.size + 1, 0, none⟩)] 26)).heap[w.heap.size + 1]? = some (.cells #[.int .i64 0, .map none, .map none, .slice none 0 0, .map none, .int .i64 0] 32 (0, 0)) := by
    rw [Below.heap_alloc _ _ _ (by simp)]
    have := heap_alloc_new (w.alloc (.cells #[.int .i64 o, .string s, .slice x n c, .int .i64 z, .slice y m k] 25)) (.cells #[.int .i64 0, .map none, .map none, .slice none 0 0, .map none, .int .i64 0] 32)
    simpa using this
  have hV : (((w.alloc (.cells #[.int .i64 o, .string s, .slice x n c, .int .i64 z, .slice y m k] 25)).alloc (.cells #[.int .i64 0, .map none, .map none, .slice none 0 0, .map none, .int .i64 0] 32)).alloc (.cells #[.pointer none, .pointer (some ⟨w.heap.size + 1, 0, none⟩)] 26)).heap[w.heap.size + 1 + 1]? = some (.cells #[.pointer none, .pointer (some ⟨w.heap.size + 1, 0, none⟩)] 26 (0, 0)) := by
    have := heap_alloc_new ((w.alloc (.cells #[.int .i64 o, .string s, .slice x n c, .int .i64 z, .slice y m k] 25)).alloc (.cells #[.int .i64 0, .map none, .map none, .slice none 0 0, .map none, .int .i64 0] 32)) (.cells #[.pointer none, .pointer (some ⟨w.heap.size + 1, 0, none⟩)] 26)
    simpa using this
  go_wp2
  generalize (((w.alloc (.cells #[.int .i64 o, .string s, .slice x n c, .int .i64 z, .slice y m k] 25)).alloc (.cells #[.int .i64 0, .map none, .map none, .slice none 0 0, .map none, .int .i64 0] 32)).alloc (.cells #[.pointer none, .pointer (some ⟨w.heap.size + 1, 0, none⟩)] 26)) = v at *
  obtain ⟨K, hKe⟩ : ∃ K, K = w.heap.size := ⟨_, rfl⟩
  obtain ⟨Z, hZe⟩ : ∃ Z, Z = w.heap.size + 1 := ⟨_, rfl⟩
  obtain ⟨V, hVe⟩ : ∃ V, V = w.heap.size + 1 + 1 := ⟨_, rfl⟩
  rw [← hVe, ← hZe] at hV
  rw [← hZe] at hZ
  rw [← hKe] at hK
  rw [← hVe, ← hZe, ← hKe]
  have HKe := hide hKe
  clear hKe hZe hVe
  have hN2 : NoDisk v (some ⟨Z, 0, none⟩) := .inr ⟨Z, rfl, by rw [cell_of_row v Z 2 _ _ _ hZ]; rfl⟩
  have d0 : v.cell? ⟨V, 0, none⟩ = some (.pointer none) := by rw [cell_of_row v V 0 _ _ _ hV]; rfl
  have d1 : v.cell? ⟨V, 1, none⟩ = some (.pointer (some ⟨Z, 0, none⟩)) := by rw [cell_of_row v V 1 _ _ _ hV]; rfl
  have hN1 : ∀ u, NoDisk u none := fun u => .inl rfl
  have c0 : v.cell? ⟨K, 0, none⟩ = some (.int .i64 o) := by rw [cell_of_row v K 0 _ _ _ hK]; rfl
  have c1 : v.cell? ⟨K, 1, none⟩ = some (.string s) := by rw [cell_of_row v K 1 _ _ _ hK]; rfl
  have c2 : v.cell? ⟨K, 2, none⟩ = some (.slice x n c) := by rw [cell_of_row v K 2 _ _ _ hK]; rfl
  have c3 : v.cell? ⟨K, 3, none⟩ = some (.int .i64 z) := by rw [cell_of_row v K 3 _ _ _ hK]; rfl
  have c4 : v.cell? ⟨K, 4, none⟩ = some (.slice y m k) := by rw [cell_of_row v K 4 _ _ _ hK]; rfl
  clear hZ hV hK
  refine wp_loop_rounds 3 ?_
  rw [rounds_succ]
  go_wp2_with fail
  refine (nread none s _ (hN1 _)).mono ?_
  rintro e w' ⟨rfl, rfl⟩
  go_wp2_with fail
  refine (ndoes none o s x n c z y m k _ (hN1 _)).mono ?_
  rintro e v1 ⟨rfl, hb⟩
  have hN2' := hN2.below hb
  have c0' : v1.cell? ⟨K, 0, none⟩ = some (.int .i64 o) := by rw [hb.cell (World.block_lt_of_cell? _ _ c0)]; exact c0
  have c1' : v1.cell? ⟨K, 1, none⟩ = some (.string s) := by rw [hb.cell (World.block_lt_of_cell? _ _ c1)]; exact c1
  have c2' : v1.cell? ⟨K, 2, none⟩ = some (.slice x n c) := by rw [hb.cell (World.block_lt_of_cell? _ _ c2)]; exact c2
  have c3' : v1.cell? ⟨K, 3, none⟩ = some (.int .i64 z) := by rw [hb.cell (World.block_lt_of_cell? _ _ c3)]; exact c3
  have c4' : v1.cell? ⟨K, 4, none⟩ = some (.slice y m k) := by rw [hb.cell (World.block_lt_of_cell? _ _ c4)]; exact c4
  have d1' : v1.cell? ⟨V, 1, none⟩ = some (.pointer (some ⟨Z, 0, none⟩)) := by rw [hb.cell (World.block_lt_of_cell? _ _ d1)]; exact d1
  have hb1 := hb0.trans (hb.mono hb0.size)
  clear c0 c1 c2 c3 c4 d0 d1 hN2 hb0 hb
  go_wp2_with fail
  refine (nflush none _ (hN1 _)).mono ?_
  rintro e w' ⟨rfl, rfl⟩
  go_wp2_with fail
  refine (nclone none _ (hN1 _)).mono ?_
  rintro e w' ⟨rfl, rfl⟩
  go_wp2_with fail
  refine (nlist none _ (hN1 _)).mono ?_
  rintro e w' ⟨rfl, rfl⟩
  go_wp2_with fail
  refine (npending none _ (hN1 _)).mono ?_
  rintro e w' ⟨rfl, rfl⟩
  go_wp2_with fail
  refine (nused none _ (hN1 _)).mono ?_
  rintro e w' ⟨rfl, rfl⟩
  go_wp2_with fail
  refine (nroom none _ (hN1 _)).mono ?_
  rintro e w' ⟨rfl, rfl⟩
  go_wp2
  rw [rounds_succ]
  go_wp2_with fail
  refine (nread (some ⟨Z, 0, none⟩) s _ hN2').mono ?_
  rintro e w' ⟨rfl, rfl⟩
  go_wp2_with fail
  refine (ndoes (some ⟨Z, 0, none⟩) o s x n c z y m k _ hN2').mono ?_
  rintro e v2 ⟨rfl, hb⟩
  have hN2'' := hN2'.below hb
  have hb2 := hb1.trans (hb.mono hb1.size)
  clear c0' c1' c2' c3' c4' d1' hN2' hb1 hb
  go_wp2_with fail
  refine (nflush (some ⟨Z, 0, none⟩) _ hN2'').mono ?_
  rintro e w' ⟨rfl, rfl⟩
  go_wp2_with fail
  refine (nclone (some ⟨Z, 0, none⟩) _ hN2'').mono ?_
  rintro e w' ⟨rfl, rfl⟩
  go_wp2_with fail
  refine (nlist (some ⟨Z, 0, none⟩) _ hN2'').mono ?_
  rintro e w' ⟨rfl, rfl⟩
  go_wp2_with fail
  refine (npending (some ⟨Z, 0, none⟩) _ hN2'').mono ?_
  rintro e w' ⟨rfl, rfl⟩
  go_wp2_with fail
  refine (nused (some ⟨Z, 0, none⟩) _ hN2'').mono ?_
  rintro e w' ⟨rfl, rfl⟩
  go_wp2_with fail
  refine (nroom (some ⟨Z, 0, none⟩) _ hN2'').mono ?_
  rintro e w' ⟨rfl, rfl⟩
  go_wp2
  rw [rounds_succ]
  go_wp2_with fail
  refine (awake_true _).mono ?_
  rintro e v3 ⟨rfl, hb3⟩
  have hW3 := hb2.trans (hb3.mono hb2.size)
  go_wp2
  go_ret
  exact ⟨rfl, hW3⟩
#print axioms diskNobody_walk
end Go.Proofs.Ytkgplikcafobmaa
