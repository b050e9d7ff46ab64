/-
  kvstore: a store that no call made.; kvstore: a store among what happens; Commit.; kvstore: Get.; kvstore: Version, Synced, Bytes of a store.; kvstore: the closures of Since and Scan; what chosen gathers.; kvstore: chosen, at the closures of Since and of Scan.; kvstore: how items are compared.
-/
import Derived.Test.YtmcgghjeocnpnaaGreatDoorPkKewsbf
import Derived.Defers
section
set_option linter.unusedVariables false
set_option maxRecDepth 1000000
namespace Go.Proofs.YtmcgghjeocnpnaaGreatDoor
open Go.RowKit Go.Maps

def UnS (w : World) (v : Value) : Prop := v = .pointer none ∨ ∃ Z, v = .pointer (some ⟨Z, 0, none⟩) ∧ w.cell? ⟨Z, 0, none⟩ = some (.pointer none)
theorem UnS.below {w w' : World} {B : Nat} {v : Value} (h : UnS w v) (hb : Below B w w') (hB : w.heap.size ≤ B) : UnS w' v := by
  rcases h with h | ⟨Z, h, c⟩
  · exact .inl h
  · exact .inr ⟨Z, h, by rw [hb.cell (Nat.lt_of_lt_of_le (World.block_lt_of_cell? w _ c) hB)]; exact c⟩
theorem unmadeS (v : Value) (w : World) (h : UnS w v) : Calls Tryz.prog 27 #[v] w fun e w' => e = .returned (.bool true) ∧ w' = w := by
  rcases h with rfl | ⟨Z, rfl, c0⟩
  · go_enter Tryz.func27, Tryz.ntmps27
    go_wp2
    go_ret
    exact ⟨rfl, rfl⟩
  · go_enter Tryz.func27, Tryz.ntmps27
    go_wp2
    go_ret
    exact ⟨rfl, rfl⟩
theorem unmade6 (Q B : Nat) (w : World) (h : w.cell? ⟨Q, 0, none⟩ = some (.pointer (some ⟨B, 0, none⟩))) : Calls Tryz.prog 27 #[.pointer (some ⟨Q, 0, none⟩)] w fun e w' => e = .returned (.bool false) ∧ w' = w := by
  go_enter Tryz.func27, Tryz.ntmps27
  go_wp2
  go_ret
  exact ⟨rfl, rfl⟩
theorem versionS (v : Value) (w : World) (h : UnS w v) : Calls Tryz.prog 19 #[v] w fun e w' => e = .returned (.int .i64 0) ∧ w' = w := by
  have HU := hide (unmadeS v w h)
  clear h
  go_enter_defers Tryz.func19, Tryz.ntmps19
  go_wp2_with fail
  refine (unhide HU).mono ?_
  rintro e w' ⟨rfl, rfl⟩
  go_wp2
  exact ⟨_, results_tmp rfl _ _ _, rfl, rfl⟩
theorem syncedS (v : Value) (w : World) (h : UnS w v) : Calls Tryz.prog 16 #[v] w fun e w' => e = .returned (.int .i64 0) ∧ w' = w := by
  have HU := hide (unmadeS v w h)
  clear h
  go_enter_defers Tryz.func16, Tryz.ntmps16
  go_wp2_with fail
  refine (unhide HU).mono ?_
  rintro e w' ⟨rfl, rfl⟩
  go_wp2
  exact ⟨_, results_tmp rfl _ _ _, rfl, rfl⟩
theorem bytesS (v : Value) (w : World) (h : UnS w v) : Calls Tryz.prog 22 #[v] w fun e w' => e = .returned (.int .i64 0) ∧ w' = w := by
  have HU := hide (unmadeS v w h)
  clear h
  go_enter_defers Tryz.func22, Tryz.ntmps22
  go_wp2_with fail
  refine (unhide HU).mono ?_
  rintro e w' ⟨rfl, rfl⟩
  go_wp2
  exact ⟨_, results_tmp rfl _ _ _, rfl, rfl⟩
theorem syncS (v : Value) (w : World) (h : UnS w v) : Calls Tryz.prog 12 #[v] w fun e w' => e = .returned (.int .i64 8) ∧ w' = w := by
  have HU := hide (unmadeS v w h)
  clear h
  go_enter_defers Tryz.func12, Tryz.ntmps12
  go_wp2_with fail
  refine (unhide HU).mono ?_
  rintro e w' ⟨rfl, rfl⟩
  go_wp2
  exact ⟨_, results_tmp rfl _ _ _, rfl, rfl⟩
theorem compactS (v : Value) (w : World) (h : UnS w v) : Calls Tryz.prog 13 #[v] w fun e w' => e = .returned (.int .i64 8) ∧ w' = w := by
  have HU := hide (unmadeS v w h)
  clear h
  go_enter_defers Tryz.func13, Tryz.ntmps13
  go_wp2_with fail
  refine (unhide HU).mono ?_
  rintro e w' ⟨rfl, rfl⟩
  go_wp2
  exact ⟨_, results_tmp rfl _ _ _, rfl, rfl⟩
theorem commitS (v : Value) (z : Value) (w : World) (h : UnS w v) : Calls Tryz.prog 14 #[v, z] w fun e w' => e = .returned (.tuple #[.int .i64 0, .int .i64 8]) ∧ w' = w := by
  have HU := hide (unmadeS v w h)
  clear h
  go_enter_defers Tryz.func14, Tryz.ntmps14
  go_wp2_with fail
  refine (unhide HU).mono ?_
  rintro e w' ⟨rfl, rfl⟩
  go_wp2
  exact ⟨_, results_tmp2 rfl _ _ _, rfl, rfl⟩
theorem chosenS (v : Value) (z : Value) (w : World) (h : UnS w v) : Calls Tryz.prog 39 #[v, z] w fun e w' => e = .returned (.slice none 0 0) ∧ w' = w := by
  have HU := hide (unmadeS v w h)
  clear h
  go_enter_defers Tryz.func39, Tryz.ntmps39
  go_wp2_with fail
  refine (unhide HU).mono ?_
  rintro e w' ⟨rfl, rfl⟩
  go_wp2
  exact ⟨_, results_tmp rfl _ _ _, rfl, rfl⟩
set_option maxHeartbeats 1000000 in
theorem getS (v : Value) (z : Value) (w : World) (h : UnS w v) : Calls Tryz.prog 23 #[v, z] w fun e w' => e = .returned (.tuple #[.agg #[.string ⟨#[]⟩, .bool false, .string ⟨#[]⟩, .int .i64 0], .bool false]) ∧ Hid (Below w.heap.size w w') := by
  obtain ⟨W, hW⟩ : ∃ W, W = w.alloc (.cells #[.string ⟨#[]⟩, .bool false, .string ⟨#[]⟩, .int .i64 0] 47) := ⟨_, rfl⟩
  obtain ⟨Z, hZ⟩ : ∃ Z, Z = w.heap.size := ⟨_, rfl⟩
  have hb : Below w.heap.size w W := by rw [hW]; exact (Below.refl _ _).alloc (Nat.le_refl _) _
  have hr : W.heap[Z]? = some (.cells #[.string ⟨#[]⟩, .bool false, .string ⟨#[]⟩, .int .i64 0] 47 (0, 0)) := by rw [hZ, hW]; exact heap_alloc_new _ _
  have c0 : W.cell? ⟨Z, 0, none⟩ = some (.string ⟨#[]⟩) := cell_of_row _ _ _ _ _ _ hr
  have c1 : W.cell? ⟨Z, 1, none⟩ = some (.bool false) := cell_of_row _ _ _ _ _ _ hr
  have c2 : W.cell? ⟨Z, 2, none⟩ = some (.string ⟨#[]⟩) := cell_of_row _ _ _ _ _ _ hr
  have c3 : W.cell? ⟨Z, 3, none⟩ = some (.int .i64 0) := cell_of_row _ _ _ _ _ _ hr
  have fz : ∀ j, W.frozen? ⟨Z, j, none⟩ = false := fun j => frozen_of_row _ _ _ _ _ hr
  have f0 := fz 0
  have f1 := fz 1
  have f2 := fz 2
  have f3 := fz 3
  obtain ⟨W2, hW2⟩ : ∃ W2, W2 = (((W.setCell ⟨Z, 0, none⟩ (.string ⟨#[]⟩)).setCell ⟨Z, 1, none⟩ (.bool false)).setCell ⟨Z, 2, none⟩ (.string ⟨#[]⟩)).setCell ⟨Z, 3, none⟩ (.int .i64 0) := ⟨_, rfl⟩
  have hr2 : W2.heap[Z]? = some (.cells #[.string ⟨#[]⟩, .bool false, .string ⟨#[]⟩, .int .i64 0] 47 (0, 0)) := by
    rw [hW2]
    exact heap_setCell_same _ _ _ _ _ _ (heap_setCell_same _ _ _ _ _ _ (heap_setCell_same _ _ _ _ _ _ (heap_setCell_same _ _ _ _ _ _ hr)))
  have t0 : W2.cell? ⟨Z, 0, none⟩ = some (.string ⟨#[]⟩) := cell_of_row _ _ _ _ _ _ hr2
  have t1 : W2.cell? ⟨Z, 1, none⟩ = some (.bool false) := cell_of_row _ _ _ _ _ _ hr2
  have t2 : W2.cell? ⟨Z, 2, none⟩ = some (.string ⟨#[]⟩) := cell_of_row _ _ _ _ _ _ hr2
  have t3 : W2.cell? ⟨Z, 3, none⟩ = some (.int .i64 0) := cell_of_row _ _ _ _ _ _ hr2
  have HB2 : Hid (Below w.heap.size w W2) := by
    show Below _ _ _
    have hle : w.heap.size ≤ Z := Nat.le_of_eq hZ.symm
    have hs := Nat.le_refl w.heap.size
    rw [hW2]
    exact below_set (below_set (below_set (below_set hb _ _ hle hs) _ _ hle hs) _ _ hle hs) _ _ hle hs
  have HU := hide (unmadeS v W (h.below hb (Nat.le_refl _)))
  clear h hb hr fz hr2
  go_enter_defers Tryz.func23, Tryz.ntmps23
  go_wp2_with fail
  rw [← hW, ← hZ]
  clear hW hZ
  refine (unhide HU).mono ?_
  rintro e w' ⟨rfl, rfl⟩
  clear HU
  go_wp2_with fail
  rw [← hW2]
  clear hW2
  exact ⟨_, by simp [results, Tryz.results23, go_sem, t0, t1, t2, t3], rfl, HB2⟩
#print axioms getS
set_option maxHeartbeats 1000000 in
theorem scanS (v : Value) (x : ByteArray) (y : ByteArray) (w : World) (h : UnS w v) : Calls Tryz.prog 21 #[v, .string x, .string y] w fun e w' => e = .returned (.slice none 0 0) ∧ Hid (Below w.heap.size w w') := by
  have HC : Hid (∀ u z, Below w.heap.size w u → Calls Tryz.prog 39 #[v, z] u fun e w' => e = .returned (.slice none 0 0) ∧ w' = u) := fun u z hb => chosenS v z u (h.below hb (Nat.le_refl _))
  have hmf : ∀ (fn : Fn) (first cap : Array Value) (w : World), (Instr.makeFunc fn first cap).run Tryz.prog w = .ok (.func fn first cap) w := fun _ _ _ _ => rfl
  clear h
  go_enter Tryz.func21, Tryz.ntmps21
  go_wp2_with fail
  refine (unhide HC _ _ ?_).mono ?_
  · first
    | exact ((Below.refl _ _).alloc (Nat.le_refl _) _)
    | exact (((Below.refl _ _).alloc (Nat.le_refl _) _).alloc (by simp) _)
  rintro e w' ⟨rfl, rfl⟩
  go_wp2_with fail
  go_ret
  first
    | exact ⟨rfl, ((Below.refl _ _).alloc (Nat.le_refl _) _)⟩
    | exact ⟨rfl, (((Below.refl _ _).alloc (Nat.le_refl _) _).alloc (by simp) _)⟩
#print axioms scanS
set_option maxHeartbeats 1000000 in
theorem sinceS (v : Value) (x : Int) (w : World) (h : UnS w v) : Calls Tryz.prog 15 #[v, .int .i64 x] w fun e w' => e = .returned (.slice none 0 0) ∧ Hid (Below w.heap.size w w') := by
  have HC : Hid (∀ u z, Below w.heap.size w u → Calls Tryz.prog 39 #[v, z] u fun e w' => e = .returned (.slice none 0 0) ∧ w' = u) := fun u z hb => chosenS v z u (h.below hb (Nat.le_refl _))
  have hmf : ∀ (fn : Fn) (first cap : Array Value) (w : World), (Instr.makeFunc fn first cap).run Tryz.prog w = .ok (.func fn first cap) w := fun _ _ _ _ => rfl
  clear h
  go_enter Tryz.func15, Tryz.ntmps15
  go_wp2_with fail
  refine (unhide HC _ _ ?_).mono ?_
  · first
    | exact ((Below.refl _ _).alloc (Nat.le_refl _) _)
    | exact (((Below.refl _ _).alloc (Nat.le_refl _) _).alloc (by simp) _)
  rintro e w' ⟨rfl, rfl⟩
  go_wp2_with fail
  go_ret
  first
    | exact ⟨rfl, ((Below.refl _ _).alloc (Nat.le_refl _) _)⟩
    | exact ⟨rfl, (((Below.refl _ _).alloc (Nat.le_refl _) _).alloc (by simp) _)⟩
#print axioms sinceS
end Go.Proofs.YtmcgghjeocnpnaaGreatDoor
end
section
set_option linter.unusedVariables false
set_option maxRecDepth 1000000
namespace Go.Proofs.YtmcgghjeocnpnaaGreatDoor
open Go.RowKit Go.Maps Go.MuLone

section
variable {w0 w w' : World} {g g' : Nat → Tg} {Q B D m : Nat} {lk : Int} {M : Md} {N : Nat} {S : List Sg} {f : Its} {cnt v y : Nat}
theorem KS.lt (h : KS w0 w g Q B D m lk M N S f cnt v y) : Q < w.heap.size := (Array.getElem?_eq_some_iff.1 h.row).1
theorem KS.ne (h : KS w0 w g Q B D m lk M N S f cnt v y) : Q ≠ m := fun e => by have h1 := h.gQ; have h2 := h.gm; rw [e, h2] at h1; cases h1
/-- Of what a store is not, nothing changes it. -/
theorem KS.st (h : KS w0 w g Q B D m lk M N S f cnt v y) (x : St w w' g g' (fun _ => False)) : KS w0 w' g' Q B D m lk M N S f cnt v y := by
  obtain ⟨P, pc, l, hl⟩ := h.lg
  exact ⟨x.heap h.row (fun e => e), ⟨P, pc, l, hl.keep x (fun _ _ e => e)⟩, h.dk.st (x.mono (fun t e => e.elim)) (k := 7) (by omega), h.im.same (x.block m h.im.lt (fun e => e)), (x.ag Q h.lt).trans h.gQ, (x.ag m h.im.lt).trans h.gm, h.lw.st2 x (fun e => e)⟩
theorem KS.below (h : KS w0 w g Q B D m lk M N S f cnt v y) (x : Below w.heap.size w w') : KS w0 w' g Q B D m lk M N S f cnt v y := h.st (St.ofBelow g _ x)
theorem KS.tag (h : KS w0 w g Q B D m lk M N S f cnt v y) (e : ∀ k, k < w.heap.size → g' k = g k) : KS w0 w g' Q B D m lk M N S f cnt v y := h.st ((St.refl w g _).tag e)
/-- The store's own row is another one, or its map. -/
theorem KS.own (h : KS w0 w g Q B D m lk M N S f cnt v y) (x : St w w' g g' X3) {lk' : Int} {f' : Its} {cnt' v' y' : Nat} (hr : w'.heap[Q]? = some (.cells #[.pointer (some ⟨B, 0, none⟩), .int .i32 lk', .int .u32 0, .map (some m), .int .i64 (v' : Int), .int .i64 (y' : Int)] 71 (0, 0))) (hi : IM w' m f' cnt') : KS w0 w' g' Q B D m lk' M N S f' cnt' v' y' := by
  obtain ⟨P, pc, l, hl⟩ := h.lg
  refine ⟨hr, ⟨P, pc, l, hl.keep x ?_⟩, h.dk.st (x.mono ?_) (k := 3) (by omega), hi, (x.ag Q h.lt).trans h.gQ, (x.ag m h.im.lt).trans h.gm, h.lw.st2 x ?_⟩
  · rintro t ht (rfl | rfl) <;> simp [Tg.of] at ht
  · rintro t (rfl | rfl) <;> simp [Tg.of]
  · rintro (e | e) <;> cases e
theorem KS.lock (h : KS w0 w g Q B D m lk M N S f cnt v y) (lk' : Int) : KS w0 (w.setCell ⟨Q, 1, none⟩ (.int .i32 lk')) g Q B D m lk' M N S f cnt v y := by
  have hg := grownBy_setCell w ⟨Q, 1, none⟩ (.int .i32 lk')
  exact h.own (St.ofG hg (fun k hk => by rw [← Option.some.inj hk, h.gQ]; exact .inl rfl)) (heap_setCell_same _ _ _ _ _ _ h.row) (h.im.same (hg.block m h.im.lt (fun e => h.ne (Option.some.inj e).symm)))
theorem KS.app (h : KS w0 w g Q B D m lk M N S f cnt v y) {M' : Md} {N' : Nat} {S' : List Sg} (x : RL w w' g B D M' N' S') : ∃ g', KS w0 w' g' Q B D m lk M' N' S' f cnt v y ∧ St w w' g g' X01 := by
  obtain ⟨g', P, pc, l, h1, h2, h3⟩ := x
  have n1 : ¬ X01 (.d 3) := by rintro (e | e) <;> simp [Tg.of] at e
  have n2 : ¬ X01 (.l 3) := by rintro (e | e) <;> simp [Tg.of] at e
  exact ⟨g', ⟨h3.heap h.row (by rw [h.gQ]; exact n1), ⟨P, pc, l, h1⟩, h2, h.im.same (h3.block m h.im.lt (by rw [h.gm]; exact n2)), (h3.ag Q h.lt).trans h.gQ, (h3.ag m h.im.lt).trans h.gm, h.lw.st2 h3 x01o⟩, h3⟩
theorem KS.apc (h : KS w0 w g Q B D m lk M N S f cnt v y) {rec : List UInt8} {n : Nat} {E : Int} (x : ApR w g B D M N S rec w' n E) : w'.cell? ⟨Q, 0, none⟩ = some (.pointer (some ⟨B, 0, none⟩)) := by
  rcases x with ⟨_, ⟨_, _, x⟩ | ⟨_, _, M', _, x⟩⟩
  · obtain ⟨g', k, _⟩ := h.app x
    exact cell_of_row _ _ _ _ _ _ k.row
  · obtain ⟨g', k, _⟩ := h.app x
    exact cell_of_row _ _ _ _ _ _ k.row
theorem KS.wrote (h : KS w0 w g Q B D m lk M N S f cnt v y) {l : List Im} {t : Nat} (x : WrR w w' g Q 3 m #[.pointer (some ⟨B, 0, none⟩), .int .i32 lk, .int .u32 0, .map (some m), .int .i64 (v : Int), .int .i64 (y : Int)] 71 f cnt l t) : KS w0 w' g Q B D m lk M N S (f.put l) (cnt + l.length) t y :=
  h.own x.st x.row x.im
theorem KS.cells (h : KS w0 w g Q B D m lk M N S f cnt v y) : w.cell? ⟨Q, 0, none⟩ = some (.pointer (some ⟨B, 0, none⟩)) ∧ w.cell? ⟨Q, 1, none⟩ = some (.int .i32 lk) ∧ w.cell? ⟨Q, 3, none⟩ = some (.map (some m)) ∧ w.cell? ⟨Q, 4, none⟩ = some (.int .i64 (v : Int)) ∧ w.cell? ⟨Q, 5, none⟩ = some (.int .i64 (y : Int)) ∧ ∀ j, w.frozen? ⟨Q, j, none⟩ = false :=
  ⟨cell_of_row _ _ _ _ _ _ h.row, cell_of_row _ _ _ _ _ _ h.row, cell_of_row _ _ _ _ _ _ h.row, cell_of_row _ _ _ _ _ _ h.row, cell_of_row _ _ _ _ _ _ h.row, fun j => frozen_of_row _ _ _ _ _ h.row⟩
end
theorem OpR6.same {w w' : World} {p : Option Addr} {l : List Op6} (h : OpR6 w p l) (e : ∀ k, blk p = some k → w'.heap[k]? = w.heap[k]?) : OpR6 w' p l := by
  refine ⟨fun hne => ?_, h.le, h.sz⟩
  obtain ⟨b, off, rfl, hc⟩ := h.mem hne
  have k : ∀ j, w'.cell? ⟨b, j, none⟩ = w.cell? ⟨b, j, none⟩ := fun j => World.cell?_of_block (w := w) (e b rfl)
  exact ⟨b, off, rfl, fun t d hd => by rw [k, k, k]; exact hc t d hd⟩
theorem OpR6.lt {w : World} {p : Option Addr} {l : List Op6} (h : OpR6 w p l) (hne : l ≠ []) : ∀ k, blk p = some k → k < w.heap.size := by
  obtain ⟨b, off, rfl, hc⟩ := h.mem hne
  intro k hk
  obtain rfl : b = k := by simpa [blk] using hk
  cases l with
  | nil => exact absurd rfl hne
  | cons o r => exact World.block_lt_of_cell? w _ (hc 0 o rfl).1
/-- What belongs to no store stays. -/
structure Fr (w w' : World) (g g' : Nat → Tg) : Prop where
  size : w.heap.size ≤ w'.heap.size
  ag : ∀ k, k < w.heap.size → g' k = g k
  block : ∀ k, k < w.heap.size → (g k = .o ∨ g k = .p 9) → w'.heap[k]? = w.heap[k]?
theorem Fr.refl (w : World) (g : Nat → Tg) : Fr w w g g := ⟨Nat.le_refl _, fun _ _ => rfl, fun _ _ _ => rfl⟩
theorem Fr.trans {a b c : World} {f g h : Nat → Tg} (x : Fr a b f g) (y : Fr b c g h) : Fr a c f h :=
  ⟨Nat.le_trans x.size y.size, fun k hk => (y.ag k (Nat.lt_of_lt_of_le hk x.size)).trans (x.ag k hk), fun k hk ho => (y.block k (Nat.lt_of_lt_of_le hk x.size) (by rw [x.ag k hk]; exact ho)).trans (x.block k hk ho)⟩
theorem St.fr {w w' : World} {g g' : Nat → Tg} {S : Tg → Prop} (x : St w w' g g' S) (h : ¬ S .o) (h9 : ¬ S (.p 9)) : Fr w w' g g' := ⟨x.size, x.ag, fun k hk ho => x.block k hk (by rcases ho with ho | ho <;> rw [ho] <;> assumption)⟩
theorem Fr.bel {w W w' : World} {g g' : Nat → Tg} (x : Fr w W g g') (h : Below W.heap.size W w') : Fr w w' g g' := x.trans ((St.ofBelow g' (fun _ => False) h).fr (fun e => e) (fun e => e))
theorem Fr.setNew {w W : World} {g g' : Nat → Tg} (h : Fr w W g g') {Z : Nat} (hZ : w.heap.size ≤ Z) (j : Nat) (x : Value) : Fr w (W.setCell ⟨Z, j, none⟩ x) g g' :=
  ⟨by have := h.size; simpa [World.setCell] using this, h.ag, fun k hk ho => (Below.heap_setCell _ ⟨Z, j, none⟩ _ k (fun e => by have q : k = Z := e; omega)).trans (h.block k hk ho)⟩
theorem KS.frl {w0 w W : World} {g g' : Nat → Tg} {Q B D m : Nat} {lk : Int} {M : Md} {N : Nat} {S : List Sg} {f : Its} {cnt v y : Nat} (h : KS w0 W g' Q B D m lk M N S f cnt v y) (x : Fr w W g g') (j : Nat) (z : Value) : Fr w (W.setCell ⟨Q, j, none⟩ z) g g' :=
  ⟨by have := x.size; simpa [World.setCell] using this, x.ag, fun k hk ho => (Below.heap_setCell _ ⟨Q, j, none⟩ _ k (fun e => by have q : k = Q := e; subst q; have h1 := h.gQ; rw [x.ag k hk] at h1; rcases ho with ho | ho <;> (rw [ho] at h1; cases h1))).trans (x.block k hk ho)⟩
theorem x3o : ¬ X3 .o := by rintro (e | e) <;> cases e
theorem x3p : ¬ X3 (.p 9) := by rintro (e | e) <;> cases e
theorem x01p9 : ¬ X01 (.p 9) := by rintro (h | h) <;> simp [Tg.of] at h
/-- A store, whatever its tags, and what was there ahead of the call. -/
def KO (w0 w : World) (g : Nat → Tg) (w' : World) (Q B D m : Nat) (M : Md) (N : Nat) (S : List Sg) (f : Its) (cnt v y : Nat) : Prop := ∃ g', KS w0 w' g' Q B D m 0 M N S f cnt v y ∧ Fr w w' g g'
/-- What a commit that passes leaves. -/
def CmR (w0 w : World) (g : Nat → Tg) (Q B D m : Nat) (M : Md) (N : Nat) (S : List Sg) (f : Its) (cnt v y : Nat) (l : List Op6) (w' : World) (x E : Int) : Prop :=
  let rec9 := cmB (v + 1) (wrI l (v + 1))
  (ckE l ≠ 0 ∧ E = (ckE l : Int) ∧ x = 0 ∧ KO w0 w g w' Q B D m M N S f cnt v y) ∨
  (ckE l = 0 ∧ E = apE M S rec9 ∧ ((E = 0 ∧ x = ((v + 1 : Nat) : Int) ∧ KO w0 w g w' Q B D m ((apD M S).write (nmS (apN S)) (frmN (nxS S) rec9)) (N + 2) (apS S rec9) (f.put (wrI l (v + 1))) (cnt + l.length) (v + 1) y) ∨ (E ≠ 0 ∧ x = 0 ∧ ∃ M', (M' = M ∨ M' = apD M S) ∧ KO w0 w g w' Q B D m M' (N + 2) S f cnt v y)))
set_option maxHeartbeats 2000000 in
theorem commit6 (w0 : World) (g : Nat → Tg) (Q B D m : Nat) (M : Md) (N : Nat) (S : List Sg) (f : Its) (cnt v y : Nat) (p : Option Addr) (pc : Nat) (l : List Op6) (w : World) (hE : EnvS w0) (h : KS w0 w g Q B D m 0 M N S f cnt v y) (hp : OpR6 w p l) (hpb : l ≠ [] → ∀ k, blk p = some k → k ≠ Q ∧ k ≠ m ∧ ¬ X01 (g k))
    (ok : SOk S) (wf : Wf S) (hN : N ≤ 1300) (hsl : S.length + 1 ≤ 1000000) (hsr : (S.flatMap (·.recs)).length + 1 ≤ 1000000) (hsz : bySz S + 70000 ≤ 9000000000000000000) (hsy : fullS S → syE M S = 0) (hv : v + 1 ≤ 1000000000) (hc : cnt ≤ 100000000) (hrl : ckE l = 0 → (cmB (v + 1) (wrI l (v + 1))).length ≤ 1000000) :
    Calls Tryz.prog 14 #[.pointer (some ⟨Q, 0, none⟩), .slice p l.length pc] w fun e w' => ∃ x E, e = .returned (.tuple #[.int .i64 x, .int .i64 E]) ∧ Hid (CmR w0 w g Q B D m M N S f cnt v y l w' x E) := by
  have HUN := hide (unmade6 Q B w h.cells.1)
  have HCK := hide (checkOps6 p pc l w hp)
  have HH := hide h
  have HP := hide hp
  have HPB := hide hpb
  have HNU : Hid (N ≤ 1300 ∧ S.length + 1 ≤ 1000000 ∧ (S.flatMap (·.recs)).length + 1 ≤ 1000000 ∧ bySz S + 70000 ≤ 9000000000000000000 ∧ v + 1 ≤ 1000000000 ∧ cnt ≤ 100000000 ∧ (ckE l = 0 → (cmB (v + 1) (wrI l (v + 1))).length ≤ 1000000)) := ⟨hN, hsl, hsr, hsz, hv, hc, hrl⟩
  have HSO : Hid (SOk S ∧ Wf S ∧ (fullS S → syE M S = 0) ∧ EnvS w0) := ⟨ok, wf, hsy, hE⟩
  clear h hp hpb hN hsl hsr hsz hv hc hrl ok wf hsy hE
  go_enter_defers Tryz.func14, Tryz.ntmps14
  go_wp2_with fail
  refine (unhide HUN).mono ?_
  rintro e w' ⟨rfl, hw'⟩
  subst hw'
  go_wp2_with fail
  refine (unhide HCK).mono ?_
  rintro e w1 ⟨rfl, HB1⟩
  clear HCK HUN
  generalize hck : ckE l = E1 at *
  by_cases hE1 : E1 = 0
  · subst hE1
    have HCK0 := hide hck
    have h1 := (unhide HH).below (unhide HB1)
    obtain ⟨c0, c1, c3, c4, c5, cf⟩ := h1.cells
    have HLK := hide (lock_free muLib ⟨Q, 1, none⟩ w1 c1 (cf 1))
    have H1 := hide h1
    clear h1 c0 c1 c3 c4 c5 cf
    go_wp2_with fail
    refine (unhide HLK).mono ?_
    rintro e w2 ⟨rfl, hw2⟩
    have h2 : KS w0 w2 g Q B D m 1 M N S f cnt v y := by rw [hw2]; exact (unhide H1).lock 1
    have HFR2 : Hid (Fr w' w2 g g) := by show Fr _ _ _ _; rw [hw2]; exact (unhide H1).frl ((Fr.refl w' g).bel (unhide HB1)) 1 _
    have okl := ckE_zero hck
    have hne : l ≠ [] := fun e => by have := okl.n1; rw [e] at this; simp at this
    have hp2 : OpR6 w2 p l := by
      have hp1 := (unhide HP).below (unhide HB1) (Nat.le_refl _)
      refine hp1.same (fun k hk => ?_)
      rw [hw2]
      exact Below.heap_setCell _ ⟨Q, 1, none⟩ _ k (unhide HPB hne k hk).1
    have HP2 := hide hp2
    have hv := (unhide HNU).2.2.2.2.1
    obtain ⟨T, hT⟩ : ∃ T : Int, T = ((v + 1 : Nat) : Int) := ⟨_, rfl⟩
    have htw : wrap64 ((v : Int) + 1) = T := by
      rw [hT]
      have h1 : (0 : Int) ≤ (v : Int) := by omega
      have h2 : (v : Int) + 1 ≤ 9223372036854775807 := by omega
      unfold wrap64
      omega
    have htb : ¬ (1099511627776 : Int) < T := by omega
    have HWR := hide (written6 p pc l (v + 1) w2 hp2 (fun o ho => ⟨(okl.each o ho).2.1, (okl.each o ho).2.2.1⟩) (by have := okl.n2; omega))
    obtain ⟨c0, c1, c3, c4, c5, cf⟩ := h2.cells
    have H2 := hide h2
    have HOKL := hide okl
    rw [← hT] at HWR
    have HTT := hide hT
    have HTW := hide htw
    clear hv htw hT
    clear h2 hp2 hw2 HLK H1 okl hck
    go_upto_region 9 with fail
    rw [unhide HTW]
    clear HTW
    go_wp2_with fail
    refine (unhide HWR).mono ?_
    rintro e w3 ⟨G, rfl, HO3, HG3, HB3⟩
    clear HWR c0 c1 c3 c4 c5 cf
    go_upto_region 12 with fail
    obtain ⟨w9, hw9⟩ : ∃ w9, w9 = w3.drew := ⟨_, rfl⟩
    have b9 : Below w3.heap.size w3 w9 := by rw [hw9]; exact (Below.refl _ _).drew
    have b29 : Below w2.heap.size w2 w9 := (unhide HB3).trans (b9.mono (unhide HB3).size)
    have h3 : KS w0 w9 g Q B D m 1 M N S f cnt v y := (unhide H2).below b29
    have ho9 : OwnM w9 (some ⟨G, 0, none⟩) l.length (wrI l (v + 1)) := (unhide HO3).below b9
    have k9 := h3.cells.1
    have HB9 := hide b29
    have hwl : (wrI l (v + 1)).length = l.length := by unfold wrI; rw [List.length_map]
    have hcr := commitRec6 (v + 1) (some ⟨G, 0, none⟩) l.length (wrI l (v + 1)) w9 ho9 (fun x hx => by
      obtain ⟨o, ho, rfl⟩ := List.mem_map.1 hx
      exact ⟨((unhide HOKL).each o ho).2.1, ((unhide HOKL).each o ho).2.2.1⟩) (by rw [hwl]; have := (unhide HOKL).n2; omega) (by have := (unhide HNU).2.2.2.2.1; omega)
    rw [hwl, ← unhide HTT] at hcr
    have HCR := hide hcr
    have HO9 := hide ho9
    have HO9K := hide ho9
    obtain ⟨g4, hg4⟩ : ∃ g4 : Nat → Tg, g4 = fun k => if k < w2.heap.size then g k else .o := ⟨_, rfl⟩
    have HAPP : Hid (∀ w4 a4 p4 r4, Below w9.heap.size w9 w4 → OwnB w4 w9.heap.size a4 p4 r4 → r4 = cmB (v + 1) (wrI l (v + 1)) → (KS w0 w4 g4 Q B D m 1 M N S f cnt v y ∧ Fr w' w4 g g4) ∧ Calls Tryz.prog 33 #[.pointer (some ⟨B, 0, none⟩), .slice a4 r4.length p4] w4 fun e w' => ∃ (n : Nat) (E : Int), e = .returned (.tuple #[.int .i64 (n : Int), .int .i64 E]) ∧ ApR w4 g4 B D M N S r4 w' n E) := by
      intro w4 a4 p4 r4 hb4 ho4 hr4
      have x4 : St w2 w4 g g4 (fun _ => False) := (St.ofBelow g _ (b29.trans (hb4.mono b29.size))).tag (fun k hk => by rw [hg4]; exact if_pos hk)
      have h4' : KS w0 w4 g4 Q B D m 1 M N S f cnt v y := (unhide H2).st x4
      have f4 : Fr w' w4 g g4 := (unhide HFR2).trans (x4.fr (fun e => e) (fun e => e))
      obtain ⟨P, pl, lg, hlg⟩ := h4'.lg
      obtain ⟨hso, hwf, hsy, hE⟩ := unhide HSO
      obtain ⟨n1, n2, n3, n4, n5, n6, n7⟩ := unhide HNU
      refine ⟨⟨h4', f4⟩, append5 w0 g4 B D P pl lg S M N a4 p4 r4 w4 hE h4'.lw hlg h4'.dk hso hwf n1 ho4.toBs (fun k hk => ?_) (by rw [hr4]; exact n7 trivial) n2 n3 n4 hsy⟩
      have hk4 := ho4.lt k hk
      refine ⟨hk4.2, ?_⟩
      rw [hg4]
      simp only
      rw [if_neg (by have := hk4.1; have := b29.size; omega)]
      exact x01o
    have HG4 : Hid (g4 G = .o ∧ G ≠ Q ∧ G ≠ m ∧ G < w9.heap.size) := by
      have hg := unhide HG3
      refine ⟨?_, ?_, ?_, Nat.lt_of_lt_of_le hg.2 b9.size⟩
      · rw [hg4]; exact if_neg (by omega)
      · exact fun e => by have := (unhide H2).lt; omega
      · exact fun e => by have := (unhide H2).im.lt; omega
    clear hcr h3 hwl b9 b29 ho9 hg4
    rw [hw9] at k9
    rw [hw9] at HCR
    go_region_held3 (fun w' => w'.cell? ⟨Q, 0, none⟩ = some (.pointer (some ⟨B, 0, none⟩))) (first | with_reducible exact kE | with_reducible exact k4 | with_reducible exact k9) ((first
      | (go_at_call 37; refine (unhide HCR).mono ?_; rintro e w4 ⟨a4, p4, r4, rfl, HR4, HO4, HB4⟩; rw [← hw9] at HO4 HB4; have hap4 := unhide HAPP w4 a4 p4 r4 (unhide HB4) (unhide HO4) (unhide HR4); have H4 := hide hap4.1; have HAP := hide hap4.2; have k4 := hap4.1.1.cells.1; clear hap4)
      | (go_at_call 33; refine (unhide HAP).mono ?_; rintro e w5 ⟨n5, E5, rfl, hap⟩; have HAR := hide hap; have kE := (unhide H4).1.apc hap; clear hap)))
    clear kE k4 k9 HAP HAPP HCR HO9 HPB HP HP2 HB1 HH HSO
    by_cases hE5 : E5 = 0
    · subst hE5
      have hap := unhide HAR
      obtain ⟨hq, ⟨_, _, hrl⟩ | ⟨hx, _⟩⟩ := hap
      · obtain ⟨g5, k5, st5⟩ := (unhide H4).1.app hrl
        obtain ⟨q1, q2, q3, q4⟩ := unhide HG4
        have ho5 : OwnM w5 (some ⟨G, 0, none⟩) l.length (wrI l (v + 1)) := ((unhide HO9K).below (unhide HB4)).st st5 (fun k hk => by
          obtain rfl : G = k := by simpa [blk] using hk
          rw [q1]; exact x01o)
        have hwl : (wrI l (v + 1)).length = l.length := by unfold wrI; rw [List.length_map]
        have hln := (unhide HOKL).n2
        have hw6 := write6 g5 Q 3 m _ _ f cnt (some ⟨G, 0, none⟩) l.length (wrI l (v + 1)) (v + 1) v w5 k5.row rfl rfl k5.im ho5 (fun k hk => by
          obtain rfl : G = k := by simpa [blk] using hk
          exact ⟨q3, q2⟩) k5.ne k5.gQ k5.gm (by rw [hwl]; omega) (by rw [hwl]; have := (unhide HNU).2.2.2.2.2.1; omega) (fun x hx => by
          obtain ⟨o, ho, rfl⟩ := List.mem_map.1 hx
          exact ((unhide HOKL).each o ho).2.1)
        rw [hwl, ← unhide HTT] at hw6
        have HW6 := hide hw6
        have HK5 := hide k5
        have HF5 : Hid (Fr w' w5 g g5) := (unhide H4).2.trans (st5.fr x01o x01p9)
        have HQ := hide hq
        have hwl' := hide hwl
        clear hw6 k5 st5 ho5 hwl hq hrl hln q1 q2 q3 q4
        go_wp2_with fail
        refine (unhide HW6).mono ?_
        rintro e w6 ⟨rfl, HR6⟩
        have k6 := (unhide HK5).wrote (unhide HR6)
        have HK6 := hide k6
        have HF6 : Hid (Fr w' w6 g g5) := (unhide HF5).trans ((unhide HR6).st.fr x3o x3p)
        clear HW6 k6 HR6 HK5
        go_wp2_with fail
        refine leaves_cons (f := 29) (args := #[.pointer (some ⟨Q, 1, none⟩)]) (by simp) (by simp [go_sem]) ?_
        refine (unlock_deferred muLib ⟨Q, 1, none⟩ .returning _ (unhide HK6).cells.2.1 ((unhide HK6).cells.2.2.2.2.2 1)).mono ?_
        rintro e u' w7 ⟨rfl, rfl, rfl⟩
        refine ⟨_, results_tmp2 rfl _ _ _, T, 0, rfl, .inr ⟨unhide HCK0, ?_, .inl ⟨rfl, unhide HTT, g5, ?_, (unhide HK6).frl (unhide HF6) 1 _⟩⟩⟩
        · rw [← unhide HR4]; exact unhide HQ
        · have k7 := (unhide HK6).lock 0
          rw [unhide hwl', unhide HR4] at k7
          exact k7
      · exact absurd rfl hx
    · have hE2 : (E5 == 0) = false := by rw [beq_eq_false_iff_ne]; exact hE5
      go_wp2_with fail
      have hap := unhide HAR
      obtain ⟨hq, ⟨hx, _⟩ | ⟨_, _, M', hM', hrl⟩⟩ := hap
      · exact absurd hx hE5
      · obtain ⟨g5, k5, st5⟩ := (unhide H4).1.app hrl
        refine leaves_cons (f := 29) (args := #[.pointer (some ⟨Q, 1, none⟩)]) (by simp) (by simp [go_sem]) ?_
        refine (unlock_deferred muLib ⟨Q, 1, none⟩ .returning _ k5.cells.2.1 (k5.cells.2.2.2.2.2 1)).mono ?_
        rintro e u' w7 ⟨rfl, rfl, rfl⟩
        refine ⟨_, results_tmp2 rfl _ _ _, 0, E5, rfl, .inr ⟨unhide HCK0, ?_, .inr ⟨hE5, rfl, M', hM', g5, k5.lock 0, k5.frl ((unhide H4).2.trans (st5.fr x01o x01p9)) 1 _⟩⟩⟩
        rw [← unhide HR4]; exact hq
  · have hE2 : (((E1 : Nat) : Int) == 0) = false := by rw [beq_eq_false_iff_ne]; omega
    have HF : Hid (CmR w0 w' g Q B D m M N S f cnt v y l w1 0 (E1 : Int)) := .inl ⟨by rw [hck]; exact hE1, by rw [hck], rfl, g, (unhide HH).below (unhide HB1), (Fr.refl w' g).bel (unhide HB1)⟩
    have hE3 : ((E1 : Nat) : Int) ≠ 0 := by omega
    clear HH HB1
    go_wp2_with fail
    exact ⟨_, results_tmp2 rfl _ _ _, 0, (E1 : Int), rfl, HF⟩
#print axioms commit6
end Go.Proofs.YtmcgghjeocnpnaaGreatDoor
end
section
set_option linter.unusedVariables false
set_option maxRecDepth 1000000
namespace Go.Proofs.YtmcgghjeocnpnaaGreatDoor
open Go.RowKit Go.Maps Go.MuLone

/-- What a store is not a part of may change. -/
theorem KS.st9 {w0 w w' : World} {g g' : Nat → Tg} {Q B D m : Nat} {lk : Int} {M : Md} {N : Nat} {S : List Sg} {f : Its} {cnt v y : Nat} (h : KS w0 w g Q B D m lk M N S f cnt v y) (x : St w w' g g' (fun t => t = .p 9)) : KS w0 w' g' Q B D m lk M N S f cnt v y := by
  obtain ⟨P, pc, l, hl⟩ := h.lg
  refine ⟨x.heap h.row (by rw [h.gQ]; simp), ⟨P, pc, l, hl.keep x ?_⟩, h.dk.st (x.mono ?_) (k := 9) (by omega), h.im.same (x.block m h.im.lt (by rw [h.gm]; simp)), (x.ag Q h.lt).trans h.gQ, (x.ag m h.im.lt).trans h.gm, h.lw.st2 x (by simp)⟩
  · rintro t ht rfl
    simp [Tg.of] at ht
  · rintro t rfl
    simp [Tg.of]
/-- What Get says. -/
def gtI (f : Its) (n : Nm) : Im := match f n with | some x => if x.g then zI else x | none => zI
def gtB (f : Its) (n : Nm) : Bool := match f n with | some x => !x.g | none => false
theorem gt_form (f : Its) (n : Nm) : ∃ (x : Im) (b : Bool), igA f n = .agg #[.string (str x.k), .bool x.g, .string (str x.v), .int .i64 (x.t : Int)] ∧ (f n).isSome = b ∧ (b = false → gtI f n = zI ∧ gtB f n = false) ∧ (b = true → x.g = true → gtI f n = zI ∧ gtB f n = false) ∧ (b = true → x.g = false → gtI f n = x ∧ gtB f n = true) := by
  unfold igA gtI gtB
  cases h : f n with
  | none => exact ⟨zI, false, rfl, rfl, fun _ => ⟨rfl, rfl⟩, fun e => (by cases e), fun e => (by cases e)⟩
  | some x => exact ⟨x, true, rfl, rfl, fun e => (by cases e), fun _ e => (by simp [e]), fun _ e => (by simp [e])⟩
set_option maxHeartbeats 1000000 in
theorem get6 (w0 : World) (g : Nat → Tg) (Q B D m : Nat) (M : Md) (N : Nat) (S : List Sg) (f : Its) (cnt v y : Nat) (n : Nm) (w : World) (h : KS w0 w g Q B D m 0 M N S f cnt v y) (hn : n.length ≤ maxLen) :
    Calls Tryz.prog 23 #[.pointer (some ⟨Q, 0, none⟩), .string (str n)] w fun e w' => e = .returned (.tuple #[imA (gtI f n), .bool (gtB f n)]) ∧ Hid (KO w0 w g w' Q B D m M N S f cnt v y) := by
  obtain ⟨g9, hg9⟩ : ∃ g9 : Nat → Tg, g9 = fun k => if k < w.heap.size then g k else .p 9 := ⟨_, rfl⟩
  replace h : KS w0 w g9 Q B D m 0 M N S f cnt v y := h.tag (fun k hk => by rw [hg9]; exact if_pos hk)
  obtain ⟨W, hW⟩ : ∃ W, W = w.alloc (.cells #[.string ⟨#[]⟩, .bool false, .string ⟨#[]⟩, .int .i64 0] 47) := ⟨_, rfl⟩
  obtain ⟨Z, hZ⟩ : ∃ Z, Z = w.heap.size := ⟨_, rfl⟩
  have hgZ : g9 Z = .p 9 := by rw [hg9, hZ]; exact if_neg (Nat.lt_irrefl _)
  have HF0 : Hid (Fr w w g g9) := ⟨Nat.le_refl _, fun k hk => by rw [hg9]; exact if_pos hk, fun _ _ _ => rfl⟩
  have HZW : Hid (w.heap.size ≤ Z) := by show _ ≤ _; omega
  have HGZ := hide hgZ
  clear hg9 hgZ
  have hb : Below w.heap.size w W := by rw [hW]; exact (Below.refl _ _).alloc (Nat.le_refl _) _
  have hr : W.heap[Z]? = some (.cells #[.string ⟨#[]⟩, .bool false, .string ⟨#[]⟩, .int .i64 0] 47 (0, 0)) := by rw [hZ, hW]; exact heap_alloc_new _ _
  have h1 := h.below hb
  have HF1 : Hid (Fr w W g g9) := (unhide HF0).bel hb
  have hQZ : Q ≠ Z := by rw [hZ]; exact Nat.ne_of_lt h.lt
  obtain ⟨c0, c1, c3, c4, c5, cf⟩ := h1.cells
  have HU := hide (unmade6 Q B W c0)
  have HLK := hide (lock_free muLib ⟨Q, 1, none⟩ W c1 (cf 1))
  have H1 := hide h1
  have HR := hide hr
  clear h hb h1 hr c0 c1 c3 c4 c5 cf
  go_enter_defers Tryz.func23, Tryz.ntmps23
  go_wp2_with fail
  rw [← hW, ← hZ]
  clear hW hZ
  refine (unhide HU).mono ?_
  rintro e w' ⟨rfl, hw'⟩
  subst hw'
  clear HU
  go_wp2_with fail
  refine (unhide HLK).mono ?_
  rintro e w2 ⟨rfl, hw2⟩
  have h2 : KS w0 w2 g9 Q B D m 1 M N S f cnt v y := by rw [hw2]; exact (unhide H1).lock 1
  have HF2 : Hid (Fr w w2 g g9) := by show Fr _ _ _ _; rw [hw2]; exact (unhide H1).frl (unhide HF1) 1 _
  have hr2 : w2.heap[Z]? = some (.cells #[.string ⟨#[]⟩, .bool false, .string ⟨#[]⟩, .int .i64 0] 47 (0, 0)) := by rw [hw2, Below.heap_setCell _ ⟨Q, 1, none⟩ _ Z (Ne.symm hQZ)]; exact unhide HR
  obtain ⟨c0, c1, c3, c4, c5, cf⟩ := h2.cells
  have hlk := (h2.im.at n hn w2 rfl).2
  obtain ⟨x, b, hx, hb, q1, q2, q3⟩ := gt_form f n
  rw [hx, hb] at hlk
  obtain ⟨W3, hW3⟩ : ∃ W3, W3 = w2.alloc (.cells #[.string (str x.k), .bool x.g, .string (str x.v), .int .i64 (x.t : Int)] 47) := ⟨_, rfl⟩
  obtain ⟨Y, hY⟩ : ∃ Y, Y = w2.heap.size := ⟨_, rfl⟩
  have hb3 : Below w2.heap.size w2 W3 := by rw [hW3]; exact (Below.refl _ _).alloc (Nat.le_refl _) _
  have hr3 : W3.heap[Y]? = some (.cells #[.string (str x.k), .bool x.g, .string (str x.v), .int .i64 (x.t : Int)] 47 (0, 0)) := by rw [hY, hW3]; exact heap_alloc_new _ _
  have H3 := hide (h2.below hb3)
  have HF3 : Hid (Fr w W3 g g9) := (unhide HF2).bel hb3
  have hz3 : W3.heap[Z]? = some (.cells #[.string ⟨#[]⟩, .bool false, .string ⟨#[]⟩, .int .i64 0] 47 (0, 0)) := by rw [hb3.block Z (Array.getElem?_eq_some_iff.1 hr2).1]; exact hr2
  have d0 : W3.cell? ⟨Y, 0, none⟩ = some (.string (str x.k)) := cell_of_row _ _ _ _ _ _ hr3
  have d1 : W3.cell? ⟨Y, 1, none⟩ = some (.bool x.g) := cell_of_row _ _ _ _ _ _ hr3
  have d2 : W3.cell? ⟨Y, 2, none⟩ = some (.string (str x.v)) := cell_of_row _ _ _ _ _ _ hr3
  have d3 : W3.cell? ⟨Y, 3, none⟩ = some (.int .i64 (x.t : Int)) := cell_of_row _ _ _ _ _ _ hr3
  have e0 : W3.cell? ⟨Z, 0, none⟩ = some (.string ⟨#[]⟩) := cell_of_row _ _ _ _ _ _ hz3
  have e1 : W3.cell? ⟨Z, 1, none⟩ = some (.bool false) := cell_of_row _ _ _ _ _ _ hz3
  have e2 : W3.cell? ⟨Z, 2, none⟩ = some (.string ⟨#[]⟩) := cell_of_row _ _ _ _ _ _ hz3
  have e3 : W3.cell? ⟨Z, 3, none⟩ = some (.int .i64 0) := cell_of_row _ _ _ _ _ _ hz3
  have fz : ∀ j, W3.frozen? ⟨Z, j, none⟩ = false := fun j => frozen_of_row _ _ _ _ _ hz3
  have f0 := fz 0
  have f1 := fz 1
  have f2 := fz 2
  have f3 := fz 3
  have HZ3 := hide hz3
  have HFI : Hid (∀ u : Im, ∃ W4, W4 = (((W3.setCell ⟨Z, 0, none⟩ (.string (str u.k))).setCell ⟨Z, 1, none⟩ (.bool u.g)).setCell ⟨Z, 2, none⟩ (.string (str u.v))).setCell ⟨Z, 3, none⟩ (.int .i64 (u.t : Int)) ∧ W4.heap[Z]? = some (.cells #[.string (str u.k), .bool u.g, .string (str u.v), .int .i64 (u.t : Int)] 47 (0, 0)) ∧ KS w0 W4 g9 Q B D m 1 M N S f cnt v y ∧ Fr w W4 g g9) := by
    intro u
    refine ⟨_, rfl, ?_, ?_, ((((unhide HF3).setNew (unhide HZW) 0 _).setNew (unhide HZW) 1 _).setNew (unhide HZW) 2 _).setNew (unhide HZW) 3 _⟩
    · exact heap_setCell_same _ _ _ _ _ _ (heap_setCell_same _ _ _ _ _ _ (heap_setCell_same _ _ _ _ _ _ (heap_setCell_same _ _ _ _ _ _ hz3)))
    · have k : ∀ {W5 : World} {j : Nat} {z : Value}, KS w0 W5 g9 Q B D m 1 M N S f cnt v y → KS w0 (W5.setCell ⟨Z, j, none⟩ z) g9 Q B D m 1 M N S f cnt v y := fun {W5 j z} hk =>
        hk.st9 (St.ofG (grownBy_setCell W5 ⟨Z, j, none⟩ z) (fun i hi => by rw [← Option.some.inj hi]; exact unhide HGZ))
      exact k (k (k (k (unhide H3))))
  clear h2 hr2 hw2 HLK H1 HR hb3 hr3 hz3 fz hx hb HGZ
  have HEnd : Hid (∀ (u : Im) (W4 : World), W4.heap[Z]? = some (.cells #[.string (str u.k), .bool u.g, .string (str u.v), .int .i64 (u.t : Int)] 47 (0, 0)) → KS w0 W4 g9 Q B D m 1 M N S f cnt v y → W4.cell? ⟨Z, 0, none⟩ = some (.string (str u.k)) ∧ W4.cell? ⟨Z, 1, none⟩ = some (.bool u.g) ∧ W4.cell? ⟨Z, 2, none⟩ = some (.string (str u.v)) ∧ W4.cell? ⟨Z, 3, none⟩ = some (.int .i64 (u.t : Int))) := fun u W4 hu _ => ⟨cell_of_row _ _ _ _ _ _ hu, cell_of_row _ _ _ _ _ _ hu, cell_of_row _ _ _ _ _ _ hu, cell_of_row _ _ _ _ _ _ hu⟩
  by_cases hbx : b = true ∧ x.g = false
  · obtain ⟨rfl, hxg⟩ := hbx
    obtain ⟨r1, r2⟩ := q3 rfl hxg
    obtain ⟨W4, hW4, hz4, k4, f4⟩ := unhide HFI x
    have HF4 := hide f4
    clear f4
    obtain ⟨s0, s1, s2, s3⟩ := unhide HEnd x W4 hz4 k4
    have H4 := hide k4
    have HQ : Hid (gtI f n = x ∧ gtB f n = true) := ⟨r1, r2⟩
    clear q1 q2 q3 k4 hz4 r1 r2
    rw [hxg] at hlk hW3 d1 hW4 s1
    go_upto_region 8 with fail
    rw [← hW3, ← hY]
    clear hW3 hY
    go_wp2_with fail
    rw [← hW4]
    clear hW4
    refine leaves_cons (f := 29) (args := #[.pointer (some ⟨Q, 1, none⟩)]) (by simp) (by simp [go_sem]) ?_
    refine (unlock_deferred muLib ⟨Q, 1, none⟩ .returning _ (unhide H4).cells.2.1 ((unhide H4).cells.2.2.2.2.2 1)).mono ?_
    rintro e u' w7 ⟨rfl, rfl, hw7⟩
    have k7 : KS w0 w7 g9 Q B D m 0 M N S f cnt v y := by rw [hw7]; exact (unhide H4).lock 0
    have kc : ∀ j, w7.cell? ⟨Z, j, none⟩ = W4.cell? ⟨Z, j, none⟩ := fun j => by rw [hw7]; exact World.cell?_setCell_other _ _ _ _ (fun e => hQZ (congrArg Addr.block e))
    have t0 := (kc 0).trans s0
    have t1 := (kc 1).trans s1
    have t2 := (kc 2).trans s2
    have t3 := (kc 3).trans s3
    exact ⟨.tuple #[imA x, .bool true], by simp [results, Tryz.results23, go_sem, t0, t1, t2, t3, imA, imC, hxg], by rw [(unhide HQ).1, (unhide HQ).2], g9, k7, by rw [hw7]; exact (unhide H4).frl (unhide HF4) 1 _⟩
  · have HQ : Hid (gtI f n = zI ∧ gtB f n = false) := by
      cases b with
      | false => exact q1 rfl
      | true => exact q2 rfl (by cases hxg : x.g with | true => rfl | false => exact absurd ⟨rfl, hxg⟩ hbx)
    obtain ⟨W4, hW4, hz4, k4, f4⟩ := unhide HFI zI
    have HF4 := hide f4
    clear f4
    obtain ⟨s0, s1, s2, s3⟩ := unhide HEnd zI W4 hz4 k4
    have H4 := hide k4
    have hW4' : W4 = (((W3.setCell ⟨Z, 0, none⟩ (.string ⟨#[]⟩)).setCell ⟨Z, 1, none⟩ (.bool false)).setCell ⟨Z, 2, none⟩ (.string ⟨#[]⟩)).setCell ⟨Z, 3, none⟩ (.int .i64 0) := hW4
    have hor : b = false ∨ (b = true ∧ x.g = true) := by
      cases b with
      | false => exact .inl rfl
      | true => exact .inr ⟨rfl, by cases hxg : x.g with | true => rfl | false => exact absurd ⟨rfl, hxg⟩ hbx⟩
    clear q1 q2 q3 k4 hz4 hW4 hbx
    have hW4 := hW4'
    clear hW4'
    rcases hor with rfl | ⟨rfl, hxg⟩
    · go_upto_region 7 with fail
      rw [← hW3, ← hY]
      clear hW3 hY
      go_wp2_with fail
      rw [← hW4]
      clear hW4
      refine leaves_cons (f := 29) (args := #[.pointer (some ⟨Q, 1, none⟩)]) (by simp) (by simp [go_sem]) ?_
      refine (unlock_deferred muLib ⟨Q, 1, none⟩ .returning _ (unhide H4).cells.2.1 ((unhide H4).cells.2.2.2.2.2 1)).mono ?_
      rintro e u' w7 ⟨rfl, rfl, hw7⟩
      have k7 : KS w0 w7 g9 Q B D m 0 M N S f cnt v y := by rw [hw7]; exact (unhide H4).lock 0
      have kc : ∀ j, w7.cell? ⟨Z, j, none⟩ = W4.cell? ⟨Z, j, none⟩ := fun j => by rw [hw7]; exact World.cell?_setCell_other _ _ _ _ (fun e => hQZ (congrArg Addr.block e))
      have t0 := (kc 0).trans s0
      have t1 := (kc 1).trans s1
      have t2 := (kc 2).trans s2
      have t3 := (kc 3).trans s3
      exact ⟨.tuple #[imA zI, .bool false], by simp [results, Tryz.results23, go_sem, t0, t1, t2, t3, imA, imC], by rw [(unhide HQ).1, (unhide HQ).2], g9, k7, by rw [hw7]; exact (unhide H4).frl (unhide HF4) 1 _⟩
    · rw [hxg] at hlk hW3 d1
      go_upto_region 7 with fail
      rw [← hW3, ← hY]
      clear hW3 hY
      go_wp2_with fail
      rw [← hW4]
      clear hW4
      refine leaves_cons (f := 29) (args := #[.pointer (some ⟨Q, 1, none⟩)]) (by simp) (by simp [go_sem]) ?_
      refine (unlock_deferred muLib ⟨Q, 1, none⟩ .returning _ (unhide H4).cells.2.1 ((unhide H4).cells.2.2.2.2.2 1)).mono ?_
      rintro e u' w7 ⟨rfl, rfl, hw7⟩
      have k7 : KS w0 w7 g9 Q B D m 0 M N S f cnt v y := by rw [hw7]; exact (unhide H4).lock 0
      have kc : ∀ j, w7.cell? ⟨Z, j, none⟩ = W4.cell? ⟨Z, j, none⟩ := fun j => by rw [hw7]; exact World.cell?_setCell_other _ _ _ _ (fun e => hQZ (congrArg Addr.block e))
      have t0 := (kc 0).trans s0
      have t1 := (kc 1).trans s1
      have t2 := (kc 2).trans s2
      have t3 := (kc 3).trans s3
      exact ⟨.tuple #[imA zI, .bool false], by simp [results, Tryz.results23, go_sem, t0, t1, t2, t3, imA, imC], by rw [(unhide HQ).1, (unhide HQ).2], g9, k7, by rw [hw7]; exact (unhide H4).frl (unhide HF4) 1 _⟩
#print axioms get6
end Go.Proofs.YtmcgghjeocnpnaaGreatDoor
end
section
set_option linter.unusedVariables false
set_option maxRecDepth 1000000
namespace Go.Proofs.YtmcgghjeocnpnaaGreatDoor
open Go.RowKit Go.Maps Go.MuLone

set_option maxHeartbeats 1000000 in
theorem version6 (w0 : World) (g : Nat → Tg) (Q B D m : Nat) (M : Md) (N : Nat) (S : List Sg) (f : Its) (cnt v y : Nat) (w : World) (h : KS w0 w g Q B D m 0 M N S f cnt v y) :
    Calls Tryz.prog 19 #[.pointer (some ⟨Q, 0, none⟩)] w fun e w' => e = .returned (.int .i64 (v : Int)) ∧ Hid (KS w0 w' g Q B D m 0 M N S f cnt v y) ∧ Hid (Fr w w' g g) := by
  obtain ⟨c0, c1, c3, c4, c5, cf⟩ := h.cells
  have HU := hide (unmade6 Q B w c0)
  have HLK := hide (lock_free muLib ⟨Q, 1, none⟩ w c1 (cf 1))
  have H1 := hide h
  clear h c0 c1 c3 c4 c5 cf
  go_enter_defers Tryz.func19, Tryz.ntmps19
  go_wp2_with fail
  refine (unhide HU).mono ?_
  rintro e w' ⟨rfl, hw'⟩
  subst hw'
  clear HU
  go_wp2_with fail
  refine (unhide HLK).mono ?_
  rintro e w2 ⟨rfl, hw2⟩
  have h2 : KS w0 w2 g Q B D m 1 M N S f cnt v y := by rw [hw2]; exact (unhide H1).lock 1
  have HF2 : Hid (Fr w' w2 g g) := by show Fr _ _ _ _; rw [hw2]; exact (unhide H1).frl (Fr.refl _ g) 1 _
  obtain ⟨c0, c1, c3, c4, c5, cf⟩ := h2.cells
  have H2 := hide h2
  clear h2 hw2 HLK H1
  go_wp2_with fail
  refine leaves_cons (f := 29) (args := #[.pointer (some ⟨Q, 1, none⟩)]) (by simp) (by simp [go_sem]) ?_
  refine (unlock_deferred muLib ⟨Q, 1, none⟩ .returning _ c1 (cf 1)).mono ?_
  rintro e u' w7 ⟨rfl, rfl, rfl⟩
  exact ⟨_, results_tmp rfl _ _ _, rfl, (unhide H2).lock 0, (unhide H2).frl (unhide HF2) 1 _⟩
set_option maxHeartbeats 1000000 in
theorem synced6 (w0 : World) (g : Nat → Tg) (Q B D m : Nat) (M : Md) (N : Nat) (S : List Sg) (f : Its) (cnt v y : Nat) (w : World) (h : KS w0 w g Q B D m 0 M N S f cnt v y) :
    Calls Tryz.prog 16 #[.pointer (some ⟨Q, 0, none⟩)] w fun e w' => e = .returned (.int .i64 (y : Int)) ∧ Hid (KS w0 w' g Q B D m 0 M N S f cnt v y) ∧ Hid (Fr w w' g g) := by
  obtain ⟨c0, c1, c3, c4, c5, cf⟩ := h.cells
  have HU := hide (unmade6 Q B w c0)
  have HLK := hide (lock_free muLib ⟨Q, 1, none⟩ w c1 (cf 1))
  have H1 := hide h
  clear h c0 c1 c3 c4 c5 cf
  go_enter_defers Tryz.func16, Tryz.ntmps16
  go_wp2_with fail
  refine (unhide HU).mono ?_
  rintro e w' ⟨rfl, hw'⟩
  subst hw'
  clear HU
  go_wp2_with fail
  refine (unhide HLK).mono ?_
  rintro e w2 ⟨rfl, hw2⟩
  have h2 : KS w0 w2 g Q B D m 1 M N S f cnt v y := by rw [hw2]; exact (unhide H1).lock 1
  have HF2 : Hid (Fr w' w2 g g) := by show Fr _ _ _ _; rw [hw2]; exact (unhide H1).frl (Fr.refl _ g) 1 _
  obtain ⟨c0, c1, c3, c4, c5, cf⟩ := h2.cells
  have H2 := hide h2
  clear h2 hw2 HLK H1
  go_wp2_with fail
  refine leaves_cons (f := 29) (args := #[.pointer (some ⟨Q, 1, none⟩)]) (by simp) (by simp [go_sem]) ?_
  refine (unlock_deferred muLib ⟨Q, 1, none⟩ .returning _ c1 (cf 1)).mono ?_
  rintro e u' w7 ⟨rfl, rfl, rfl⟩
  exact ⟨_, results_tmp rfl _ _ _, rfl, (unhide H2).lock 0, (unhide H2).frl (unhide HF2) 1 _⟩
set_option maxHeartbeats 1000000 in
theorem bytes6 (w0 : World) (g : Nat → Tg) (Q B D m : Nat) (M : Md) (N : Nat) (S : List Sg) (f : Its) (cnt v y : Nat) (w : World) (h : KS w0 w g Q B D m 0 M N S f cnt v y) (ok : SOk S) :
    Calls Tryz.prog 22 #[.pointer (some ⟨Q, 0, none⟩)] w fun e w' => e = .returned (.int .i64 (bySz S : Int)) ∧ Hid (KS w0 w' g Q B D m 0 M N S f cnt v y) ∧ Hid (Fr w w' g g) := by
  obtain ⟨c0, c1, c3, c4, c5, cf⟩ := h.cells
  have HU := hide (unmade6 Q B w c0)
  have HLK := hide (lock_free muLib ⟨Q, 1, none⟩ w c1 (cf 1))
  have H1 := hide h
  have HOK := hide ok
  clear h c0 c1 c3 c4 c5 cf ok
  go_enter_defers Tryz.func22, Tryz.ntmps22
  go_wp2_with fail
  refine (unhide HU).mono ?_
  rintro e w' ⟨rfl, hw'⟩
  subst hw'
  clear HU
  go_wp2_with fail
  refine (unhide HLK).mono ?_
  rintro e w2 ⟨rfl, hw2⟩
  have h2 : KS w0 w2 g Q B D m 1 M N S f cnt v y := by rw [hw2]; exact (unhide H1).lock 1
  have HF2 : Hid (Fr w' w2 g g) := by show Fr _ _ _ _; rw [hw2]; exact (unhide H1).frl (Fr.refl _ g) 1 _
  obtain ⟨c0, c1, c3, c4, c5, cf⟩ := h2.cells
  obtain ⟨P, pc, l, hl⟩ := h2.lg
  have HBY := hide (bytes5 g B D P pc l S w2 hl (unhide HOK))
  have H2 := hide h2
  clear h2 hw2 HLK H1 hl
  go_wp2_with fail
  refine (unhide HBY).mono ?_
  rintro e w3 ⟨rfl, HB3⟩
  have h3 := (unhide H2).below (unhide HB3)
  clear HBY
  go_wp2_with fail
  refine leaves_cons (f := 29) (args := #[.pointer (some ⟨Q, 1, none⟩)]) (by simp) (by simp [go_sem]) ?_
  refine (unlock_deferred muLib ⟨Q, 1, none⟩ .returning _ h3.cells.2.1 (h3.cells.2.2.2.2.2 1)).mono ?_
  rintro e u' w7 ⟨rfl, rfl, rfl⟩
  exact ⟨_, results_tmp rfl _ _ _, rfl, h3.lock 0, h3.frl ((unhide HF2).bel (unhide HB3)) 1 _⟩
#print axioms bytes6
end Go.Proofs.YtmcgghjeocnpnaaGreatDoor
end
section
set_option linter.unusedVariables false
set_option maxRecDepth 1000000
namespace Go.Proofs.YtmcgghjeocnpnaaGreatDoor
open Go.RowKit Go.Maps Go.MuLone

structure IV where
  a : ByteArray
  g : Bool
  b : ByteArray
  t : Int
theorem imE_form {v : Value} {y : DataW Unit × List MemPlace} (h : imE v = some y) : ∃ (a : ByteArray) (g : Bool) (b : ByteArray) (t : Int), v = .agg #[.string a, .bool g, .string b, .int .i64 t] ∧ y = (.agg [.lit (.string a.data.toList), .lit (.bool g), .lit (.string b.data.toList), .lit (.int .i64 t)], []) := by
  unfold imE at h
  split at h
  · rename_i xs
    split at h
    · rename_i a g b t hxs
      refine ⟨a, g, b, t, ?_, (Option.some.inj h).symm⟩
      congr 1
      apply Array.toList_inj.1
      rw [hxs]
    · cases h
  · cases h
theorem agg4_inj {a b a' b' : ByteArray} {g g' : Bool} {t t' : Int} (h : Value.agg #[.string a, .bool g, .string b, .int .i64 t] = Value.agg #[.string a', .bool g', .string b', .int .i64 t']) : a = a' ∧ g = g' ∧ b = b' ∧ t = t' := by
  injection h with e
  have e1 := congrArg Array.toList e
  simp only [List.cons.injEq, Value.string.injEq, Value.bool.injEq, Value.int.injEq, true_and, and_true] at e1
  exact e1
set_option maxHeartbeats 1000000 in
theorem since1 (x : Im) (c : Nat) (z : Int) (w : World) (h : w.cell? ⟨c, 0, none⟩ = some (.int .i64 z)) :
    Calls Tryz.prog 40 #[.agg #[.string (str x.k), .bool x.g, .string (str x.v), .int .i64 (x.t : Int)], .pointer (some ⟨c, 0, none⟩)] w fun e w' => e = .returned (.bool (decide (z < (x.t : Int)))) ∧ Hid (Below w.heap.size w w') := by
  have hlt := World.block_lt_of_cell? w _ h
  go_enter Tryz.func40, Tryz.ntmps40
  go_wp2_with fail
  go_ret
  exact ⟨rfl, (Below.refl _ _).alloc (Nat.le_refl _) _⟩
/-- Keys are what they are kept under. -/
def KOk (f : Its) : Prop := ∀ n x, f n = some x → x.k = n ∧ n.length ≤ maxLen
/-- What chosen has gathered when left is still to come. -/
structure Gth (f : Its) (p : Im → Bool) (left : Lit → Bool) (l : List Im) : Prop where
  mem : ∀ x ∈ l, f x.k = some x ∧ p x = true ∧ left (.string x.k) = false
  all : ∀ n x, f n = some x → p x = true → left (.string n) = false → x ∈ l
  nd : l.Nodup
theorem Gth.step {f : Its} {p : Im → Bool} {left : Lit → Bool} {l : List Im} (h : Gth f p left l) {x : Nm} {i : Im} (hf : f x = some i) (hk : i.k = x) (hl : left (.string x) = true) :
    Gth f p (fun z => left z && !z.sameKey (.string x)) (if p i then l ++ [i] else l) := by
  have same : ∀ n, (Lit.string n).sameKey (.string x) = decide (n = x) := fun n => by
    by_cases e : n = x
    · subst e; simp [Lit.sameKey]
    · rw [sameKey_ne (fun e' => e (by simpa using e'))]; simp [e]
  have off : ∀ y ∈ l, y.k ≠ x := fun y hy e => by
    have := (h.mem y hy).2.2
    rw [e, hl] at this
    cases this
  have old : ∀ y ∈ l, f y.k = some y ∧ p y = true ∧ (left (.string y.k) && !(Lit.string y.k).sameKey (.string x)) = false := fun y hy => by
    obtain ⟨a, b, c⟩ := h.mem y hy
    exact ⟨a, b, by rw [c]; rfl⟩
  have alls : ∀ n y, f n = some y → p y = true → (left (.string n) && !(Lit.string n).sameKey (.string x)) = false → y ∈ l ∨ (n = x ∧ y = i) := fun n y h1 h2 h3 => by
    by_cases e : n = x
    · subst e; rw [hf] at h1; exact .inr ⟨rfl, (Option.some.inj h1).symm⟩
    · rw [same, decide_eq_false e] at h3
      exact .inl (h.all n y h1 h2 (by simpa using h3))
  by_cases hp : p i = true
  · rw [if_pos hp]
    refine ⟨fun y hy => ?_, fun n y h1 h2 h3 => ?_, ?_⟩
    · rcases List.mem_append.1 hy with e | e
      · exact old y e
      · obtain rfl := List.mem_singleton.1 e
        exact ⟨by rw [hk]; exact hf, hp, by rw [hk, same]; simp⟩
    · rcases alls n y h1 h2 h3 with e | ⟨_, e⟩
      · exact List.mem_append_left _ e
      · rw [e]; exact List.mem_append_right _ (List.mem_singleton.2 rfl)
    · rw [List.nodup_append]
      refine ⟨h.nd, by simp, fun a ha b hb e => ?_⟩
      rw [List.mem_singleton.1 hb] at e
      exact off a ha (by rw [e]; exact hk)
  · rw [if_neg hp]
    refine ⟨fun y hy => old y hy, fun n y h1 h2 h3 => ?_, h.nd⟩
    rcases alls n y h1 h2 h3 with e | ⟨_, e⟩
    · exact e
    · rw [e] at h2; exact absurd h2 hp
/-- One key ahead of another, as the model says it. -/
def bl (a b : Nm) : Bool := Op.bytesLess (str a).toList (str b).toList
def scP (p q : Nm) (x : Im) : Bool := !x.g && (!bl x.k p && ((str q).toList.isEmpty || bl x.k q))
set_option maxHeartbeats 1000000 in
theorem scan1 (x : Im) (c d : Nat) (p q : Nm) (w : World) (h : w.cell? ⟨c, 0, none⟩ = some (.string (str p))) (hd : w.cell? ⟨d, 0, none⟩ = some (.string (str q))) :
    Calls Tryz.prog 50 #[.agg #[.string (str x.k), .bool x.g, .string (str x.v), .int .i64 (x.t : Int)], .pointer (some ⟨c, 0, none⟩), .pointer (some ⟨d, 0, none⟩)] w fun e w' => e = .returned (.bool (scP p q x)) ∧ Hid (Below w.heap.size w w') := by
  have hlt := World.block_lt_of_cell? w _ h
  have hlt2 := World.block_lt_of_cell? w _ hd
  obtain ⟨r, hr⟩ : ∃ r, r = scP p q x := ⟨_, rfl⟩
  rw [← hr]
  have HR := hide hr
  clear hr
  have fin : ∀ b0, r = b0 → Ending.returned (Value.bool b0) = Ending.returned (Value.bool r) := fun b0 e => by rw [e]
  have HF := hide fin
  clear fin
  cases hg : x.g with
  | true =>
    have hr : r = false := by rw [unhide HR]; unfold scP; rw [hg]; rfl
    rw [hr]
    clear hr
    go_enter Tryz.func50, Tryz.ntmps50
    go_wp2_with fail
    go_ret
    exact ⟨rfl, (Below.refl _ _).alloc (Nat.le_refl _) _⟩
  | false =>
    cases hp : Op.bytesLess (str x.k).toList (str p).toList with
    | true =>
      have hr : r = false := by rw [unhide HR]; unfold scP bl; rw [hg, hp]; rfl
      rw [hr]
      clear hr
      go_enter Tryz.func50, Tryz.ntmps50
      go_wp2_with fail
      go_ret
      exact ⟨rfl, (Below.refl _ _).alloc (Nat.le_refl _) _⟩
    | false =>
      cases he : (str q).toList.isEmpty with
      | true =>
        have hr : r = true := by rw [unhide HR]; unfold scP bl; rw [hg, hp, he]; rfl
        rw [hr]
        clear hr
        go_enter Tryz.func50, Tryz.ntmps50
        go_wp2_with fail
        all_goals (go_ret; exact ⟨(by first | rfl | simp_all), (Below.refl _ _).alloc (Nat.le_refl _) _⟩)
      | false =>
        have hr : r = Op.bytesLess (str x.k).toList (str q).toList := by rw [unhide HR]; unfold scP bl; rw [hg, hp, he]; simp
        rw [hr]
        clear hr
        go_enter Tryz.func50, Tryz.ntmps50
        go_wp2_with fail
        all_goals (go_ret; exact ⟨(by first | rfl | simp_all), (Below.refl _ _).alloc (Nat.le_refl _) _⟩)
/-- How the items lie in order. -/
def Rise (l : List Im) : Prop := l.Pairwise fun a b => bl a.k b.k = true
/-- slices.SortFunc of items by their keys. -/
def SortC : Prop := ∀ (a : Option Addr) (c : Nat) (l : List Im) (u : World), OwnM u a c l → l.Nodup → (∀ x ∈ l, ∀ y ∈ l, x.k = y.k → x = y) → l.length ≤ 1000000 → Calls Tryz.prog 89 #[.slice a l.length c, .func (.func 90) #[] #[]] u fun e w' => ∃ l', e = .returned (.tuple #[]) ∧ Hid (OwnM w' a c l') ∧ Hid (l'.Perm l ∧ Rise l') ∧ Hid (u.grownBy w' (blk a))
#print axioms scan1
end Go.Proofs.YtmcgghjeocnpnaaGreatDoor
end
section
set_option linter.unusedVariables false
set_option maxRecDepth 1000000
namespace Go.Proofs.YtmcgghjeocnpnaaGreatDoor
open Go.RowKit Go.Maps Go.MuLone

set_option maxHeartbeats 2000000 in
theorem chosen6s (hS : SortC) (R o bm : Nat) (f : Its) (cnt : Nat) (c : Nat) (z : Int) (w : World) (h0 : w.cell? ⟨R, o, none⟩ = some (.map (some bm))) (him : IM w bm f cnt) (hc : w.cell? ⟨c, 0, none⟩ = some (.int .i64 z)) (hk : KOk f) (hcn : cnt ≤ 1000000) :
    Calls Tryz.prog 59 #[.pointer (some ⟨R, o, none⟩), .func (.func 40) #[] #[.pointer (some ⟨c, 0, none⟩)]] w fun e w' => ∃ a cap l, e = .returned (.slice a l.length cap) ∧ Hid (OwnM w' a cap l) ∧ Hid (∀ k, blk a = some k → w.heap.size ≤ k) ∧ Hid (Gth f (fun x => decide (z < (x.t : Int))) (fun _ => false) l ∧ Rise l ∧ l.length ≤ cnt) ∧ Hid (Below w.heap.size w w') := by
  obtain ⟨D, hD1, hD3⟩ := him
  have HD1 := hide hD1
  have HD3 := hide hD3
  have HC := hide hc
  have hbm := hD1.lt
  obtain ⟨q, hq⟩ : ∃ q : Im → Bool, q = fun x => decide (z < (x.t : Int)) := ⟨_, rfl⟩
  have HQ := hide hq
  rw [← hq]
  have HK := hide hk
  have HCL : Hid (∀ u x, Below w.heap.size w u → Calls Tryz.prog 40 #[.agg #[.string (str x.k), .bool x.g, .string (str x.v), .int .i64 (x.t : Int)], .pointer (some ⟨c, 0, none⟩)] u fun e w' => e = .returned (.bool (q x)) ∧ Hid (Below u.heap.size u w')) := fun u x hb => by
    rw [hq]
    exact since1 x c z u (by rw [hb.cell (World.block_lt_of_cell? w _ (unhide HC))]; exact unhide HC)
  clear hD3 hc hq hk
  go_enter Tryz.func59, Tryz.ntmps59
  go_wp2_with (at_range; refine wpList_range_own _ rfl _ 49 rfl 9 47 law Tryz.underlying49 _ bm cnt D rfl hD1 ?_; intro w0 hrg0 hg0 hs0)
  go_frame
  have HB0 : Hid (Below w.heap.size w w0) := (Below.refl _ _).grown hg0 (Nat.le_refl _) (fun j hj => by cases hj)
  have HS0 := hide hs0
  clear hg0 hs0 hD1
  go_loopw [5] (fun u5 wr => ∃ (a : Option Addr) (cap : Nat) (l : List Im) (left : Lit → Bool) (c9 : Nat), u5 = .slice a l.length cap ∧ wr.ranges Tryz.prog 9 imE bm w.heap.size cnt D left c9 ∧ Hid (OwnM wr a cap l) ∧ Hid (Gth f q left l) ∧ Hid (∀ n, left (.string n) = true → Maps.has D (.string n) = true) ∧ Hid (l.length + c9 ≤ cnt) ∧ Hid (Below w.heap.size w wr) ∧ Hid (∀ k, blk a = some k → w.heap.size < k) ∧ Hid (w.heap.size + 1 ≤ wr.heap.size)) (fun _ wr => wr.rangeLeft bm w.heap.size)
  case atStart =>
    refine ⟨none, 0, [], _, _, rfl, hrg0, OwnM.nil _, ⟨fun x hx => (by cases hx), fun n x h1 h2 h3 => ?_, List.nodup_nil⟩, fun n hn => hn, ?_, HB0, fun k hk => (by cases hk), ?_⟩
    · rcases unhide HD3 n with ⟨e1, e2⟩ | ⟨y, e1, e2, e3⟩
      · rw [e1] at h1; cases h1
      · rw [e2] at h3; cases h3
    · show 0 + _ ≤ _; have := (unhide HD1).size_le; omega
    · show _ ≤ _; have := unhide HS0; omega
  case round =>
    obtain ⟨a, cap, l, left, c9, rfl, hrg, HO, HGt, Hlf, Hno, HB, Hbl, Hsz⟩ := hrel
    go_wp2_with (first | (at_next; refine wpList_next_ranges _ rfl _ rfl 9 law imE (fun x : List UInt8 => Value.string (str x)) (fun p : IV => Value.agg #[.string p.a, .bool p.g, .string p.b, .int .i64 p.t]) (fun key kl hkey => by obtain ⟨x, e, _⟩ := Maps.keyOf_str Tryz.underlying9 hkey; exact ⟨x, e⟩) (fun v y hv => by obtain ⟨x, g, b, t, e, _⟩ := imE_form hv; exact ⟨⟨x, g, b, t⟩, e⟩) bm w.heap.size cnt D left c9 rfl hrg ?_ ?_) | fail)
    · intro hc0 hl0
      have HL0 : Hid (Gth f q (fun _ => false) l) := by
        have g9 := unhide HGt
        exact ⟨fun x hx => ⟨(g9.mem x hx).1, (g9.mem x hx).2.1, rfl⟩, fun n x h1 h2 _ => g9.all n x h1 h2 (hl0 _), g9.nd⟩
      have hll : l.length ≤ 1000000 := by have := unhide Hno; omega
      have HSO := hide (hS a cap l wr (unhide HO) (unhide HGt).nd (fun x hx y hy e => by
        have e1 := ((unhide HGt).mem x hx).1
        have e2 := ((unhide HGt).mem y hy).1
        rw [e, e2] at e1
        exact (Option.some.inj e1).symm) hll)
      clear hrg hl0 hc0
      go_wp2_with fail
      refine (unhide HSO).mono ?_
      rintro e w9 ⟨l9, rfl, HO9, HP9, HG9⟩
      have HBF : Hid (Below w.heap.size w w9) := (unhide HB).grown (unhide HG9) (unhide HB).size (fun j hj => Nat.le_of_lt (unhide Hbl j hj))
      have hl9 : l.length = l9.length := (unhide HP9).1.length_eq.symm
      have HF9 : Hid (Gth f q (fun _ => false) l9 ∧ Rise l9 ∧ l9.length ≤ cnt) := by
        have hp := (unhide HP9).1
        have g9 := unhide HL0
        exact ⟨⟨fun x hx => g9.mem x (hp.mem_iff.1 hx), fun n x h1 h2 h3 => hp.mem_iff.2 (g9.all n x h1 h2 h3), hp.nodup_iff.2 g9.nd⟩, (unhide HP9).2, by rw [← hl9]; have := unhide Hno; omega⟩
      have HBK : Hid (∀ k, blk a = some k → w.heap.size ≤ k) := fun k hk => Nat.le_of_lt (unhide Hbl k hk)
      rw [hl9]
      clear HSO hl9
      go_wp2_with fail
      go_ret
      exact ⟨a, cap, l9, rfl, HO9, HBK, HF9, HBF⟩
    · intro x p kl y1 y2 w1 c1 hkey hlx hv hat hrg1 hlt hg1 hs1 hen
      obtain ⟨x', ex, rfl, hxl⟩ := Maps.keyOf_str Tryz.underlying9 hkey
      obtain rfl : x = x' := by
        have e : Value.string (str x) = Value.string (str x') := ex
        simpa [str] using e
      obtain ⟨i, hfi, hpi⟩ : ∃ i, f x = some i ∧ p = ⟨str i.k, i.g, str i.v, (i.t : Int)⟩ := by
        rcases unhide HD3 x with ⟨e1, e2⟩ | ⟨i, e1, e2, e3⟩
        · have := unhide Hlf x hlx
          rw [e2] at this; cases this
        · refine ⟨i, e1, ?_⟩
          have e4 := hat (enI i)
          rw [e3] at e4
          rw [← e4] at hv
          have e5 := imE_inv hv
          obtain ⟨pa, pg, pb, pt⟩ := p
          obtain ⟨e6, e7, e8, e9⟩ := agg4_inj (show Value.agg #[.string pa, .bool pg, .string pb, .int .i64 pt] = .agg #[.string (str i.k), .bool i.g, .string (str i.v), .int .i64 (i.t : Int)] from e5)
          rw [e6, e7, e8, e9]
      subst hpi
      have hki := (unhide HK x i hfi).1
      have HGS := hide ((unhide HGt).step hfi hki hlx)
      have hbw1 : Below w.heap.size w w1 := (unhide HB).grown hg1 (unhide HB).size (fun j hj => by rw [← Option.some.inj hj]; exact Nat.le_refl _)
      obtain ⟨W, hW⟩ : ∃ W, W = w1.alloc (.cells #[.string (str i.k), .bool i.g, .string (str i.v), .int .i64 (i.t : Int)] 47) := ⟨_, rfl⟩
      obtain ⟨Z, hZ⟩ : ∃ Z, Z = w1.heap.size := ⟨_, rfl⟩
      have hbW : Below w1.heap.size w1 W := by rw [hW]; exact (Below.refl _ _).alloc (Nat.le_refl _) _
      have hrW : W.heap[Z]? = some (.cells #[.string (str i.k), .bool i.g, .string (str i.v), .int .i64 (i.t : Int)] 47 (0, 0)) := by rw [hZ, hW]; exact heap_alloc_new _ _
      have d0 : W.cell? ⟨Z, 0, none⟩ = some (.string (str i.k)) := cell_of_row _ _ _ _ _ _ hrW
      have d1 : W.cell? ⟨Z, 1, none⟩ = some (.bool i.g) := cell_of_row _ _ _ _ _ _ hrW
      have d2 : W.cell? ⟨Z, 2, none⟩ = some (.string (str i.v)) := cell_of_row _ _ _ _ _ _ hrW
      have d3 : W.cell? ⟨Z, 3, none⟩ = some (.int .i64 (i.t : Int)) := cell_of_row _ _ _ _ _ _ hrW
      have hbWw : Below w.heap.size w W := hbw1.trans (hbW.mono hbw1.size)
      have HBW := hide hbWw
      have kW : w1.grownBy W none := ⟨hbW.os, hbW.tape, hbW.output, hbW.size, fun k hk _ => hbW.block k hk⟩
      have HRG := hide (And.intro hrg (And.intro (hrg1.kept kW (by simp) (by simp)) hlt))
      have HOW : Hid (OwnM W a cap l) := (unhide HO).same (fun k hk => (hbW.block k (Nat.lt_of_lt_of_le ((unhide HO).lt k hk) hg1.size)).trans (hg1.block k ((unhide HO).lt k hk) (fun e => by have := unhide Hbl k hk; have := Option.some.inj e; omega)))
      have HSZ : Hid (w.heap.size + 1 ≤ W.heap.size) := by show _ ≤ _; have := unhide Hsz; have := hbW.size; omega
      have HCI := hide (unhide HCL W i hbWw)
      have HRW := hide hrW
      clear hrg hrg1 hg1 hs1 hv hat hkey ex hfi hki hbw1 hbW hrW hbWw kW hlt hlx
      go_upto_region 5 with fail
      rw [← hW, ← hZ]
      clear hW hZ hen
      go_wp2_with fail
      refine (unhide HCI).mono ?_
      rintro e w2 ⟨rfl, HB2⟩
      have hB2 := unhide HB2
      have HBw2 : Hid (Below w.heap.size w w2) := (unhide HBW).trans (hB2.mono (unhide HBW).size)
      have hrw2 : w2.heap[Z]? = some (.cells #[.string (str i.k), .bool i.g, .string (str i.v), .int .i64 (i.t : Int)] 47 (0, 0)) := by rw [hB2.block Z (Array.getElem?_eq_some_iff.1 (unhide HRW)).1]; exact unhide HRW
      have k2 : W.grownBy w2 none := ⟨hB2.os, hB2.tape, hB2.output, hB2.size, fun k hk _ => hB2.block k hk⟩
      have HRG2 := hide ((unhide HRG).2.1.kept k2 (by simp) (by simp))
      have HO2 : Hid (OwnM w2 a cap l) := (unhide HOW).below hB2
      have HS2 : Hid (w.heap.size + 1 ≤ w2.heap.size) := Nat.le_trans (unhide HSZ) hB2.size
      clear hB2 k2 HCI d0 d1 d2 d3
      generalize hqi : q i = bq at *
      have HQI := hide hqi
      clear hqi
      cases bq with
      | false =>
        go_wp2_with fail
        go_roundw
        case rel =>
          refine ⟨a, cap, l, _, c1, rfl, unhide HRG2, HO2, ?_, ?_, ?_, HBw2, Hbl, HS2⟩
          · have g9 := unhide HGS
            rw [if_neg (by simp)] at g9
            exact g9
          · intro n hn
            simp only [Bool.and_eq_true] at hn
            exact unhide Hlf n hn.1
          · show _ ≤ _; have := unhide Hno; have := (unhide HRG).2.2; omega
        case measure =>
          rw [(unhide HRG2).left_eq, (unhide HRG).1.left_eq]
          exact (unhide HRG).2.2
      | true =>
        have e0 : w2.cell? ⟨Z, 0, none⟩ = some (.string (str i.k)) := cell_of_row _ _ _ _ _ _ hrw2
        have e1 : w2.cell? ⟨Z, 1, none⟩ = some (.bool i.g) := cell_of_row _ _ _ _ _ _ hrw2
        have e2 : w2.cell? ⟨Z, 2, none⟩ = some (.string (str i.v)) := cell_of_row _ _ _ _ _ _ hrw2
        have e3 : w2.cell? ⟨Z, 3, none⟩ = some (.int .i64 (i.t : Int)) := cell_of_row _ _ _ _ _ _ hrw2
        have hll : l.length ≤ 1000000 := by have := unhide Hno; omega
        obtain ⟨W4, hW4⟩ : ∃ W4, W4 = w2.alloc (.cells #[.string (str i.k), .bool i.g, .string (str i.v), .int .i64 (i.t : Int)] 47) := ⟨_, rfl⟩
        have hb4 : Below w2.heap.size w2 W4 := by rw [hW4]; exact (Below.refl _ _).alloc (Nat.le_refl _) _
        have hr4 : W4.heap[w2.heap.size]? = some (.cells (imC i).toArray 47 (0, 0)) := by rw [hW4]; exact heap_alloc_new _ _
        have ho4 : OwnM W4 a cap l := (unhide HO2).below hb4
        rw [hW4] at hr4 ho4
        clear hrw2
        go_wp2_with (at_builtin; refine wp_appm _ rfl _ _ rfl a cap l l.length rfl rfl ho4 w2.heap.size 1 i rfl hr4 hll ?_; intro g9 cap9 w9 HO9 HG9 HL9)
        have hg9 := unhide HG9
        rw [← hW4] at hg9
        have k4 : w2.grownBy W4 none := ⟨hb4.os, hb4.tape, hb4.output, hb4.size, fun k hk _ => hb4.block k hk⟩
        have hrg9 := ((unhide HRG2).kept k4 (by simp) (by simp)).kept hg9 (fun e => by have := unhide Hbl _ e.symm; omega) (fun e => by have := unhide Hbl _ e.symm; omega)
        have hb24 := (unhide HBw2).trans (hb4.mono (unhide HBw2).size)
        refine ⟨⟨some ⟨g9, 0, none⟩, cap9, l ++ [i], _, c1, by simp, hrg9, HO9, ?_, ?_, ?_, ?_, ?_, ?_⟩, ?_⟩
        · have g8 := unhide HGS
          rw [if_pos trivial] at g8
          exact g8
        · intro n hn
          simp only [Bool.and_eq_true] at hn
          exact unhide Hlf n hn.1
        · show _ ≤ _
          have := unhide Hno
          have := (unhide HRG).2.2
          simp
          omega
        · exact hb24.grown hg9 hb24.size (fun j hj => Nat.le_of_lt (unhide Hbl j hj))
        · intro k hk
          obtain rfl : g9 = k := by simpa [blk] using hk
          rcases unhide HL9 with e | e
          · exact unhide Hbl g9 e
          · rw [← hW4] at e
            have := unhide HS2
            have := hb4.size
            omega
        · show _ ≤ _
          have := unhide HS2
          have := hb4.size
          have := hg9.size
          omega
        · rw [hrg9.left_eq, (unhide HRG).1.left_eq]
          exact (unhide HRG).2.2
#print axioms chosen6s
set_option maxHeartbeats 2000000 in
theorem chosen6c (hS : SortC) (R o bm : Nat) (f : Its) (cnt : Nat) (c d : Nat) (pf pt : Nm) (w : World) (h0 : w.cell? ⟨R, o, none⟩ = some (.map (some bm))) (him : IM w bm f cnt) (hc : w.cell? ⟨c, 0, none⟩ = some (.string (str pf))) (hd : w.cell? ⟨d, 0, none⟩ = some (.string (str pt))) (hk : KOk f) (hcn : cnt ≤ 1000000) :
    Calls Tryz.prog 59 #[.pointer (some ⟨R, o, none⟩), .func (.func 50) #[] #[.pointer (some ⟨c, 0, none⟩), .pointer (some ⟨d, 0, none⟩)]] w fun e w' => ∃ a cap l, e = .returned (.slice a l.length cap) ∧ Hid (OwnM w' a cap l) ∧ Hid (∀ k, blk a = some k → w.heap.size ≤ k) ∧ Hid (Gth f (fun x => scP pf pt x) (fun _ => false) l ∧ Rise l ∧ l.length ≤ cnt) ∧ Hid (Below w.heap.size w w') := by
  obtain ⟨D, hD1, hD3⟩ := him
  have HD1 := hide hD1
  have HD3 := hide hD3
  have HC := hide hc
  have HD := hide hd
  have hbm := hD1.lt
  obtain ⟨q, hq⟩ : ∃ q : Im → Bool, q = fun x => scP pf pt x := ⟨_, rfl⟩
  have HQ := hide hq
  rw [← hq]
  have HK := hide hk
  have HCL : Hid (∀ u x, Below w.heap.size w u → Calls Tryz.prog 50 #[.agg #[.string (str x.k), .bool x.g, .string (str x.v), .int .i64 (x.t : Int)], .pointer (some ⟨c, 0, none⟩), .pointer (some ⟨d, 0, none⟩)] u fun e w' => e = .returned (.bool (q x)) ∧ Hid (Below u.heap.size u w')) := fun u x hb => by
    rw [hq]
    exact scan1 x c d pf pt u (by rw [hb.cell (World.block_lt_of_cell? w _ (unhide HC))]; exact unhide HC) (by rw [hb.cell (World.block_lt_of_cell? w _ (unhide HD))]; exact unhide HD)
  clear hD3 hc hd hq hk
  go_enter Tryz.func59, Tryz.ntmps59
  go_wp2_with (at_range; refine wpList_range_own _ rfl _ 49 rfl 9 47 law Tryz.underlying49 _ bm cnt D rfl hD1 ?_; intro w0 hrg0 hg0 hs0)
  go_frame
  have HB0 : Hid (Below w.heap.size w w0) := (Below.refl _ _).grown hg0 (Nat.le_refl _) (fun j hj => by cases hj)
  have HS0 := hide hs0
  clear hg0 hs0 hD1
  go_loopw [5] (fun u5 wr => ∃ (a : Option Addr) (cap : Nat) (l : List Im) (left : Lit → Bool) (c9 : Nat), u5 = .slice a l.length cap ∧ wr.ranges Tryz.prog 9 imE bm w.heap.size cnt D left c9 ∧ Hid (OwnM wr a cap l) ∧ Hid (Gth f q left l) ∧ Hid (∀ n, left (.string n) = true → Maps.has D (.string n) = true) ∧ Hid (l.length + c9 ≤ cnt) ∧ Hid (Below w.heap.size w wr) ∧ Hid (∀ k, blk a = some k → w.heap.size < k) ∧ Hid (w.heap.size + 1 ≤ wr.heap.size)) (fun _ wr => wr.rangeLeft bm w.heap.size)
  case atStart =>
    refine ⟨none, 0, [], _, _, rfl, hrg0, OwnM.nil _, ⟨fun x hx => (by cases hx), fun n x h1 h2 h3 => ?_, List.nodup_nil⟩, fun n hn => hn, ?_, HB0, fun k hk => (by cases hk), ?_⟩
    · rcases unhide HD3 n with ⟨e1, e2⟩ | ⟨y, e1, e2, e3⟩
      · rw [e1] at h1; cases h1
      · rw [e2] at h3; cases h3
    · show 0 + _ ≤ _; have := (unhide HD1).size_le; omega
    · show _ ≤ _; have := unhide HS0; omega
  case round =>
    obtain ⟨a, cap, l, left, c9, rfl, hrg, HO, HGt, Hlf, Hno, HB, Hbl, Hsz⟩ := hrel
    go_wp2_with (first | (at_next; refine wpList_next_ranges _ rfl _ rfl 9 law imE (fun x : List UInt8 => Value.string (str x)) (fun p : IV => Value.agg #[.string p.a, .bool p.g, .string p.b, .int .i64 p.t]) (fun key kl hkey => by obtain ⟨x, e, _⟩ := Maps.keyOf_str Tryz.underlying9 hkey; exact ⟨x, e⟩) (fun v y hv => by obtain ⟨x, g, b, t, e, _⟩ := imE_form hv; exact ⟨⟨x, g, b, t⟩, e⟩) bm w.heap.size cnt D left c9 rfl hrg ?_ ?_) | fail)
    · intro hc0 hl0
      have HL0 : Hid (Gth f q (fun _ => false) l) := by
        have g9 := unhide HGt
        exact ⟨fun x hx => ⟨(g9.mem x hx).1, (g9.mem x hx).2.1, rfl⟩, fun n x h1 h2 _ => g9.all n x h1 h2 (hl0 _), g9.nd⟩
      have hll : l.length ≤ 1000000 := by have := unhide Hno; omega
      have HSO := hide (hS a cap l wr (unhide HO) (unhide HGt).nd (fun x hx y hy e => by
        have e1 := ((unhide HGt).mem x hx).1
        have e2 := ((unhide HGt).mem y hy).1
        rw [e, e2] at e1
        exact (Option.some.inj e1).symm) hll)
      clear hrg hl0 hc0
      go_wp2_with fail
      refine (unhide HSO).mono ?_
      rintro e w9 ⟨l9, rfl, HO9, HP9, HG9⟩
      have HBF : Hid (Below w.heap.size w w9) := (unhide HB).grown (unhide HG9) (unhide HB).size (fun j hj => Nat.le_of_lt (unhide Hbl j hj))
      have hl9 : l.length = l9.length := (unhide HP9).1.length_eq.symm
      have HF9 : Hid (Gth f q (fun _ => false) l9 ∧ Rise l9 ∧ l9.length ≤ cnt) := by
        have hp := (unhide HP9).1
        have g9 := unhide HL0
        exact ⟨⟨fun x hx => g9.mem x (hp.mem_iff.1 hx), fun n x h1 h2 h3 => hp.mem_iff.2 (g9.all n x h1 h2 h3), hp.nodup_iff.2 g9.nd⟩, (unhide HP9).2, by rw [← hl9]; have := unhide Hno; omega⟩
      have HBK : Hid (∀ k, blk a = some k → w.heap.size ≤ k) := fun k hk => Nat.le_of_lt (unhide Hbl k hk)
      rw [hl9]
      clear HSO hl9
      go_wp2_with fail
      go_ret
      exact ⟨a, cap, l9, rfl, HO9, HBK, HF9, HBF⟩
    · intro x p kl y1 y2 w1 c1 hkey hlx hv hat hrg1 hlt hg1 hs1 hen
      obtain ⟨x', ex, rfl, hxl⟩ := Maps.keyOf_str Tryz.underlying9 hkey
      obtain rfl : x = x' := by
        have e : Value.string (str x) = Value.string (str x') := ex
        simpa [str] using e
      obtain ⟨i, hfi, hpi⟩ : ∃ i, f x = some i ∧ p = ⟨str i.k, i.g, str i.v, (i.t : Int)⟩ := by
        rcases unhide HD3 x with ⟨e1, e2⟩ | ⟨i, e1, e2, e3⟩
        · have := unhide Hlf x hlx
          rw [e2] at this; cases this
        · refine ⟨i, e1, ?_⟩
          have e4 := hat (enI i)
          rw [e3] at e4
          rw [← e4] at hv
          have e5 := imE_inv hv
          obtain ⟨pa, pg, pb, pt⟩ := p
          obtain ⟨e6, e7, e8, e9⟩ := agg4_inj (show Value.agg #[.string pa, .bool pg, .string pb, .int .i64 pt] = .agg #[.string (str i.k), .bool i.g, .string (str i.v), .int .i64 (i.t : Int)] from e5)
          rw [e6, e7, e8, e9]
      subst hpi
      have hki := (unhide HK x i hfi).1
      have HGS := hide ((unhide HGt).step hfi hki hlx)
      have hbw1 : Below w.heap.size w w1 := (unhide HB).grown hg1 (unhide HB).size (fun j hj => by rw [← Option.some.inj hj]; exact Nat.le_refl _)
      obtain ⟨W, hW⟩ : ∃ W, W = w1.alloc (.cells #[.string (str i.k), .bool i.g, .string (str i.v), .int .i64 (i.t : Int)] 47) := ⟨_, rfl⟩
      obtain ⟨Z, hZ⟩ : ∃ Z, Z = w1.heap.size := ⟨_, rfl⟩
      have hbW : Below w1.heap.size w1 W := by rw [hW]; exact (Below.refl _ _).alloc (Nat.le_refl _) _
      have hrW : W.heap[Z]? = some (.cells #[.string (str i.k), .bool i.g, .string (str i.v), .int .i64 (i.t : Int)] 47 (0, 0)) := by rw [hZ, hW]; exact heap_alloc_new _ _
      have d0 : W.cell? ⟨Z, 0, none⟩ = some (.string (str i.k)) := cell_of_row _ _ _ _ _ _ hrW
      have d1 : W.cell? ⟨Z, 1, none⟩ = some (.bool i.g) := cell_of_row _ _ _ _ _ _ hrW
      have d2 : W.cell? ⟨Z, 2, none⟩ = some (.string (str i.v)) := cell_of_row _ _ _ _ _ _ hrW
      have d3 : W.cell? ⟨Z, 3, none⟩ = some (.int .i64 (i.t : Int)) := cell_of_row _ _ _ _ _ _ hrW
      have hbWw : Below w.heap.size w W := hbw1.trans (hbW.mono hbw1.size)
      have HBW := hide hbWw
      have kW : w1.grownBy W none := ⟨hbW.os, hbW.tape, hbW.output, hbW.size, fun k hk _ => hbW.block k hk⟩
      have HRG := hide (And.intro hrg (And.intro (hrg1.kept kW (by simp) (by simp)) hlt))
      have HOW : Hid (OwnM W a cap l) := (unhide HO).same (fun k hk => (hbW.block k (Nat.lt_of_lt_of_le ((unhide HO).lt k hk) hg1.size)).trans (hg1.block k ((unhide HO).lt k hk) (fun e => by have := unhide Hbl k hk; have := Option.some.inj e; omega)))
      have HSZ : Hid (w.heap.size + 1 ≤ W.heap.size) := by show _ ≤ _; have := unhide Hsz; have := hbW.size; omega
      have HCI := hide (unhide HCL W i hbWw)
      have HRW := hide hrW
      clear hrg hrg1 hg1 hs1 hv hat hkey ex hfi hki hbw1 hbW hrW hbWw kW hlt hlx
      go_upto_region 5 with fail
      rw [← hW, ← hZ]
      clear hW hZ hen
      go_wp2_with fail
      refine (unhide HCI).mono ?_
      rintro e w2 ⟨rfl, HB2⟩
      have hB2 := unhide HB2
      have HBw2 : Hid (Below w.heap.size w w2) := (unhide HBW).trans (hB2.mono (unhide HBW).size)
      have hrw2 : w2.heap[Z]? = some (.cells #[.string (str i.k), .bool i.g, .string (str i.v), .int .i64 (i.t : Int)] 47 (0, 0)) := by rw [hB2.block Z (Array.getElem?_eq_some_iff.1 (unhide HRW)).1]; exact unhide HRW
      have k2 : W.grownBy w2 none := ⟨hB2.os, hB2.tape, hB2.output, hB2.size, fun k hk _ => hB2.block k hk⟩
      have HRG2 := hide ((unhide HRG).2.1.kept k2 (by simp) (by simp))
      have HO2 : Hid (OwnM w2 a cap l) := (unhide HOW).below hB2
      have HS2 : Hid (w.heap.size + 1 ≤ w2.heap.size) := Nat.le_trans (unhide HSZ) hB2.size
      clear hB2 k2 HCI d0 d1 d2 d3
      generalize hqi : q i = bq at *
      have HQI := hide hqi
      clear hqi
      cases bq with
      | false =>
        go_wp2_with fail
        go_roundw
        case rel =>
          refine ⟨a, cap, l, _, c1, rfl, unhide HRG2, HO2, ?_, ?_, ?_, HBw2, Hbl, HS2⟩
          · have g9 := unhide HGS
            rw [if_neg (by simp)] at g9
            exact g9
          · intro n hn
            simp only [Bool.and_eq_true] at hn
            exact unhide Hlf n hn.1
          · show _ ≤ _; have := unhide Hno; have := (unhide HRG).2.2; omega
        case measure =>
          rw [(unhide HRG2).left_eq, (unhide HRG).1.left_eq]
          exact (unhide HRG).2.2
      | true =>
        have e0 : w2.cell? ⟨Z, 0, none⟩ = some (.string (str i.k)) := cell_of_row _ _ _ _ _ _ hrw2
        have e1 : w2.cell? ⟨Z, 1, none⟩ = some (.bool i.g) := cell_of_row _ _ _ _ _ _ hrw2
        have e2 : w2.cell? ⟨Z, 2, none⟩ = some (.string (str i.v)) := cell_of_row _ _ _ _ _ _ hrw2
        have e3 : w2.cell? ⟨Z, 3, none⟩ = some (.int .i64 (i.t : Int)) := cell_of_row _ _ _ _ _ _ hrw2
        have hll : l.length ≤ 1000000 := by have := unhide Hno; omega
        obtain ⟨W4, hW4⟩ : ∃ W4, W4 = w2.alloc (.cells #[.string (str i.k), .bool i.g, .string (str i.v), .int .i64 (i.t : Int)] 47) := ⟨_, rfl⟩
        have hb4 : Below w2.heap.size w2 W4 := by rw [hW4]; exact (Below.refl _ _).alloc (Nat.le_refl _) _
        have hr4 : W4.heap[w2.heap.size]? = some (.cells (imC i).toArray 47 (0, 0)) := by rw [hW4]; exact heap_alloc_new _ _
        have ho4 : OwnM W4 a cap l := (unhide HO2).below hb4
        rw [hW4] at hr4 ho4
        clear hrw2
        go_wp2_with (at_builtin; refine wp_appm _ rfl _ _ rfl a cap l l.length rfl rfl ho4 w2.heap.size 1 i rfl hr4 hll ?_; intro g9 cap9 w9 HO9 HG9 HL9)
        have hg9 := unhide HG9
        rw [← hW4] at hg9
        have k4 : w2.grownBy W4 none := ⟨hb4.os, hb4.tape, hb4.output, hb4.size, fun k hk _ => hb4.block k hk⟩
        have hrg9 := ((unhide HRG2).kept k4 (by simp) (by simp)).kept hg9 (fun e => by have := unhide Hbl _ e.symm; omega) (fun e => by have := unhide Hbl _ e.symm; omega)
        have hb24 := (unhide HBw2).trans (hb4.mono (unhide HBw2).size)
        refine ⟨⟨some ⟨g9, 0, none⟩, cap9, l ++ [i], _, c1, by simp, hrg9, HO9, ?_, ?_, ?_, ?_, ?_, ?_⟩, ?_⟩
        · have g8 := unhide HGS
          rw [if_pos trivial] at g8
          exact g8
        · intro n hn
          simp only [Bool.and_eq_true] at hn
          exact unhide Hlf n hn.1
        · show _ ≤ _
          have := unhide Hno
          have := (unhide HRG).2.2
          simp
          omega
        · exact hb24.grown hg9 hb24.size (fun j hj => Nat.le_of_lt (unhide Hbl j hj))
        · intro k hk
          obtain rfl : g9 = k := by simpa [blk] using hk
          rcases unhide HL9 with e | e
          · exact unhide Hbl g9 e
          · rw [← hW4] at e
            have := unhide HS2
            have := hb4.size
            omega
        · show _ ≤ _
          have := unhide HS2
          have := hb4.size
          have := hg9.size
          omega
        · rw [hrg9.left_eq, (unhide HRG).1.left_eq]
          exact (unhide HRG).2.2
#print axioms chosen6c
end Go.Proofs.YtmcgghjeocnpnaaGreatDoor
end
section
set_option linter.unusedVariables false
set_option maxRecDepth 1000000
namespace Go.Proofs.YtmcgghjeocnpnaaGreatDoor
open Go.RowKit Go.Maps Go.MuLone

def cmN (a b : Nm) : Int := if bl a b then -1 else if (str a).toList == (str b).toList then 0 else 1
def cmI (x y : Im) : Int := cmN x.k y.k
theorem isNaN6 (a : Nm) (w : World) : Calls Tryz.prog 125 #[.string (str a)] w fun e w' => e = .returned (.bool false) ∧ w' = w := by
  go_enter Tryz.func125, Tryz.ntmps125
  go_wp2
  go_ret
  exact ⟨rfl, rfl⟩
set_option maxHeartbeats 1000000 in
theorem compare6 (a b : Nm) (w : World) : Calls Tryz.prog 91 #[.string (str a), .string (str b)] w fun e w' => e = .returned (.int .i64 (cmN a b)) ∧ w' = w := by
  have HA := hide (isNaN6 a w)
  have HB := hide (isNaN6 b w)
  obtain ⟨r, hr⟩ : ∃ r, r = cmN a b := ⟨_, rfl⟩
  rw [← hr]
  unfold cmN bl at hr
  cases h1 : Op.bytesLess (str a).toList (str b).toList with
  | true =>
    rw [h1] at hr
    simp only [if_true] at hr
    rw [hr]
    clear hr
    go_enter Tryz.func91, Tryz.ntmps91
    go_wp2_with fail
    refine (unhide HA).mono ?_
    rintro e w' ⟨rfl, hw1⟩
    subst hw1
    go_wp2_with fail
    refine (unhide HB).mono ?_
    rintro e w' ⟨rfl, hw1⟩
    subst hw1
    go_wp2_with fail
    go_ret
    exact ⟨rfl, rfl⟩
  | false =>
    cases h2 : ((str a).toList == (str b).toList) with
    | true =>
      rw [h1, h2] at hr
      have hr' : r = 0 := hr
      rw [hr']
      clear hr'
      clear hr
      go_enter Tryz.func91, Tryz.ntmps91
      go_wp2_with fail
      refine (unhide HA).mono ?_
      rintro e w' ⟨rfl, hw1⟩
      subst hw1
      go_wp2_with fail
      refine (unhide HB).mono ?_
      rintro e w' ⟨rfl, hw1⟩
      subst hw1
      go_wp2_with fail
      go_ret
      exact ⟨rfl, rfl⟩
    | false =>
      rw [h1, h2] at hr
      have hr' : r = 1 := hr
      rw [hr']
      clear hr'
      clear hr
      go_enter Tryz.func91, Tryz.ntmps91
      go_wp2_with fail
      refine (unhide HA).mono ?_
      rintro e w' ⟨rfl, hw1⟩
      subst hw1
      go_wp2_with fail
      refine (unhide HB).mono ?_
      rintro e w' ⟨rfl, hw1⟩
      subst hw1
      go_wp2_with fail
      go_ret
      exact ⟨rfl, rfl⟩
theorem cmp1 (x y : Im) (w : World) :
    Calls Tryz.prog 90 #[.agg #[.string (str x.k), .bool x.g, .string (str x.v), .int .i64 (x.t : Int)], .agg #[.string (str y.k), .bool y.g, .string (str y.v), .int .i64 (y.t : Int)]] w fun e w' => e = .returned (.int .i64 (cmI x y)) ∧ w' = (w.alloc (.cells #[.string (str x.k), .bool x.g, .string (str x.v), .int .i64 (x.t : Int)] 47)).alloc (.cells #[.string (str y.k), .bool y.g, .string (str y.v), .int .i64 (y.t : Int)] 47) := by
  have HC := hide (compare6 x.k y.k ((w.alloc (.cells #[.string (str x.k), .bool x.g, .string (str x.v), .int .i64 (x.t : Int)] 47)).alloc (.cells #[.string (str y.k), .bool y.g, .string (str y.v), .int .i64 (y.t : Int)] 47)))
  go_enter Tryz.func90, Tryz.ntmps90
  go_wp2_with fail
  refine (unhide HC).mono ?_
  rintro e w' ⟨rfl, hw1⟩
  subst hw1
  go_wp2_with fail
  go_ret
  exact ⟨rfl, rfl⟩
#print axioms cmp1
end Go.Proofs.YtmcgghjeocnpnaaGreatDoor
end
