/-
  THE WALK OF DiskNobody.
-/
import Derived.Test.YtkhpjlgbiicdcaaDskW
set_option linter.unusedVariables false
namespace Go.Proofs.Ytkhpjlgbiicdcaa
open Go.RowKit Go.Maps

theorem NoDisk.below {w w' : World} {p : Option Addr} (h : NoDisk w p) (hb : Below w.heap.size w w') : NoDisk w' p := by
  rcases h with h | ⟨Z, h, hz⟩
  · exact .inl h
  · exact .inr ⟨Z, h, by rw [hb.cell (World.block_lt_of_cell? w _ hz)]; exact hz⟩
theorem nthere (p : Option Addr) (s : ByteArray) (w : World) (h : NoDisk w p) : Calls Try.prog 33 #[.pointer p, .string s] w fun e w' => e = .returned (.int .i64 8) ∧ w' = w := by
  go_enter Try.func33, Try.ntmps33
  go_wp2_with fail
  refine (named_no p s w h).mono ?_
  rintro e w' ⟨rfl, rfl⟩
  go_wp2
  go_ret
  exact ⟨rfl, rfl⟩
theorem nread (p : Option Addr) (s : ByteArray) (w : World) (h : NoDisk w p) : Calls Try.prog 17 #[.pointer p, .string s] w fun e w' => e = .returned (.tuple #[.slice none 0 0, .int .i64 8]) ∧ w' = w := by
  go_enter Try.func17, Try.ntmps17
  go_wp2_with fail
  refine (nthere p s w h).mono ?_
  rintro e w' ⟨rfl, rfl⟩
  go_wp2
  go_ret2
  exact ⟨rfl, rfl⟩
theorem ncut (p : Option Addr) (s : ByteArray) (z : Int) (w : World) (h : NoDisk w p) : Calls Try.prog 30 #[.pointer p, .string s, .int .i64 z] w fun e w' => e = .returned (.int .i64 8) ∧ w' = w := by
  go_enter Try.func30, Try.ntmps30
  go_wp2_with fail
  refine (nthere p s w h).mono ?_
  rintro e w' ⟨rfl, rfl⟩
  go_wp2
  go_ret
  exact ⟨rfl, rfl⟩
theorem ndrop (p : Option Addr) (s : ByteArray) (w : World) (h : NoDisk w p) : Calls Try.prog 31 #[.pointer p, .string s] w fun e w' => e = .returned (.int .i64 8) ∧ w' = w := by
  go_enter Try.func31, Try.ntmps31
  go_wp2_with fail
  refine (nthere p s w h).mono ?_
  rintro e w' ⟨rfl, rfl⟩
  go_wp2
  go_ret
  exact ⟨rfl, rfl⟩
theorem nwrite (p : Option Addr) (s : ByteArray) (x : Option Addr) (n c : Nat) (w : World) (h : NoDisk w p) : Calls Try.prog 23 #[.pointer p, .string s, .slice x n c] w fun e w' => e = .returned (.int .i64 8) ∧ w' = w := by
  go_enter Try.func23, Try.ntmps23
  go_wp2_with fail
  refine (named_no p s w h).mono ?_
  rintro e w' ⟨rfl, rfl⟩
  go_wp2
  go_ret
  exact ⟨rfl, rfl⟩
theorem nflush (p : Option Addr)  (w : World) (h : NoDisk w p) : Calls Try.prog 32 #[.pointer p] w fun e w' => e = .returned (.int .i64 8) ∧ w' = w := by
  go_enter Try.func32, Try.ntmps32
  go_wp2_with fail
  refine (unmade_yes p w h).mono ?_
  rintro e w' ⟨rfl, rfl⟩
  go_wp2
  go_ret
  exact ⟨rfl, rfl⟩
theorem nlist (p : Option Addr)  (w : World) (h : NoDisk w p) : Calls Try.prog 22 #[.pointer p] w fun e w' => e = .returned (.slice none 0 0) ∧ w' = w := by
  go_enter Try.func22, Try.ntmps22
  go_wp2_with fail
  refine (unmade_yes p w h).mono ?_
  rintro e w' ⟨rfl, rfl⟩
  go_wp2
  go_ret
  exact ⟨rfl, rfl⟩
theorem npending (p : Option Addr)  (w : World) (h : NoDisk w p) : Calls Try.prog 12 #[.pointer p] w fun e w' => e = .returned (.int .i64 0) ∧ w' = w := by
  go_enter Try.func12, Try.ntmps12
  go_wp2_with fail
  refine (unmade_yes p w h).mono ?_
  rintro e w' ⟨rfl, rfl⟩
  go_wp2
  go_ret
  exact ⟨rfl, rfl⟩
theorem nused (p : Option Addr)  (w : World) (h : NoDisk w p) : Calls Try.prog 13 #[.pointer p] w fun e w' => e = .returned (.int .i64 0) ∧ w' = w := by
  go_enter Try.func13, Try.ntmps13
  go_wp2_with fail
  refine (unmade_yes p w h).mono ?_
  rintro e w' ⟨rfl, rfl⟩
  go_wp2
  go_ret
  exact ⟨rfl, rfl⟩
theorem nroom (p : Option Addr)  (w : World) (h : NoDisk w p) : Calls Try.prog 14 #[.pointer p] w fun e w' => e = .returned (.int .i64 0) ∧ w' = w := by
  go_enter Try.func14, Try.ntmps14
  go_wp2_with fail
  refine (unmade_yes p w h).mono ?_
  rintro e w' ⟨rfl, rfl⟩
  go_wp2
  go_ret
  exact ⟨rfl, rfl⟩
theorem ncrash (p : Option Addr) (x : Option Addr) (n c : Nat) (z : Int) (w : World) (h : NoDisk w p) : Calls Try.prog 18 #[.pointer p, .slice x n c, .int .i64 z] w fun e w' => e = .returned (.int .i64 8) ∧ w' = w := by
  go_enter Try.func18, Try.ntmps18
  go_wp2_with fail
  refine (unmade_yes p w h).mono ?_
  rintro e w' ⟨rfl, rfl⟩
  go_wp2
  go_ret
  exact ⟨rfl, rfl⟩
theorem nclone (p : Option Addr)  (w : World) (h : NoDisk w p) : Calls Try.prog 10 #[.pointer p] w fun e w' => e = .returned (.pointer none) ∧ w' = w := by
  go_enter Try.func10, Try.ntmps10
  go_wp2_with fail
  refine (unmade_yes p w h).mono ?_
  rintro e w' ⟨rfl, rfl⟩
  go_wp2
  go_ret
  exact ⟨rfl, rfl⟩
theorem nsync (p : Option Addr) (s : ByteArray) (w : World) (h : NoDisk w p) : Calls Try.prog 16 #[.pointer p, .string s] w fun e w' => e = .returned (.int .i64 8) ∧ Below w.heap.size w w' := by
  have hb : Below w.heap.size w (w.alloc (.cells #[.string s] 9)) := (Below.refl _ _).alloc (Nat.le_refl _) _
  go_enter Try.func16, Try.ntmps16
  go_wp2_with fail
  refine (nthere p s _ (h.below hb)).mono ?_
  rintro e w' ⟨rfl, rfl⟩
  go_wp2
  go_ret
  exact ⟨rfl, hb⟩

/-- Which call a Do is. -/
theorem op8 (o : Int) : ∃ r : Nat, r < 8 ∧ wrap64 ((IntKind.u64.wrap o).tmod 8) = (r : Int) ∧ r = (o % 8).toNat := by
  have e : IntKind.u64.wrap o = o % 18446744073709551616 := by simp [IntKind.wrap, IntKind.bits, IntKind.signed]
  have h0 : 0 ≤ o % 18446744073709551616 := Int.emod_nonneg _ (by omega)
  have e2 : (o % 18446744073709551616).tmod 8 = o % 18446744073709551616 % 8 := Int.tmod_eq_emod_of_nonneg h0
  refine ⟨(o % 8).toNat, by omega, ?_, rfl⟩
  rw [e, e2]
  have e3 : o % 18446744073709551616 % 8 = o % 8 := by omega
  rw [e3, IntWalk.wrap64_in _ (by omega)]
  omega

set_option maxRecDepth 20000 in
set_option maxHeartbeats 4000000 in
theorem ndoes (p : Option Addr) (o : Int) (s : ByteArray) (x : Option Addr) (n c : Nat) (z : Int) (y : Option Addr) (m k : Nat) (w : World) (h : NoDisk w p) :
    Calls Try.prog 15 #[.pointer p, .agg #[.int .i64 o, .string s, .slice x n c, .int .i64 z, .slice y m k]] w fun e w' => e = .returned (.int .i64 8) ∧ Below w.heap.size w w' := by
  have hb : Below w.heap.size w (w.alloc (.cells #[.int .i64 o, .string s, .slice x n c, .int .i64 z, .slice y m k] 36)) := (Below.refl _ _).alloc (Nat.le_refl _) _
  have hx := h.below hb
  obtain ⟨r, h8, hr, -⟩ := op8 o
  go_enter Try.func15, Try.ntmps15
  match r, h8 with
  | 0, _ =>
    have hr : wrap64 ((IntKind.u64.wrap o).tmod 8) = 0 := hr
    go_wp2_with fail
    refine (nwrite p s x n c _ hx).mono ?_
    rintro e w' ⟨rfl, rfl⟩
    go_wp2
    go_ret
    exact ⟨rfl, hb⟩
  | 1, _ =>
    have hr : wrap64 ((IntKind.u64.wrap o).tmod 8) = 1 := hr
    go_wp2_with fail
    refine (nwrite p s x n c _ hx).mono ?_
    rintro e w' ⟨rfl, rfl⟩
    go_wp2
    go_ret
    exact ⟨rfl, hb⟩
  | 2, _ =>
    have hr : wrap64 ((IntKind.u64.wrap o).tmod 8) = 2 := hr
    go_wp2_with fail
    refine (nwrite p s x n c _ hx).mono ?_
    rintro e w' ⟨rfl, rfl⟩
    go_wp2
    go_ret
    exact ⟨rfl, hb⟩
  | 3, _ =>
    have hr : wrap64 ((IntKind.u64.wrap o).tmod 8) = 3 := hr
    go_wp2_with fail
    refine (ncut p s z _ hx).mono ?_
    rintro e w' ⟨rfl, rfl⟩
    go_wp2
    go_ret
    exact ⟨rfl, hb⟩
  | 4, _ =>
    have hr : wrap64 ((IntKind.u64.wrap o).tmod 8) = 4 := hr
    go_wp2_with fail
    refine (ndrop p s _ hx).mono ?_
    rintro e w' ⟨rfl, rfl⟩
    go_wp2
    go_ret
    exact ⟨rfl, hb⟩
  | 5, _ =>
    have hr : wrap64 ((IntKind.u64.wrap o).tmod 8) = 5 := hr
    go_wp2_with fail
    refine (nsync p s _ hx).mono ?_
    rintro e w' ⟨rfl, hb'⟩
    go_wp2
    go_ret
    exact ⟨rfl, hb.trans (hb'.mono hb.size)⟩
  | 6, _ =>
    have hr : wrap64 ((IntKind.u64.wrap o).tmod 8) = 6 := hr
    go_wp2_with fail
    refine (nflush p _ hx).mono ?_
    rintro e w' ⟨rfl, rfl⟩
    go_wp2
    go_ret
    exact ⟨rfl, hb⟩
  | 7, _ =>
    have hr : wrap64 ((IntKind.u64.wrap o).tmod 8) = 7 := hr
    go_wp2_with fail
    refine (ncrash p y m k z _ hx).mono ?_
    rintro e w' ⟨rfl, rfl⟩
    go_wp2
    go_ret
    exact ⟨rfl, hb⟩

end Go.Proofs.Ytkhpjlgbiicdcaa
