/-
  seglog: a new segment; write.
-/
import Derived.Test.YtmcgghjeocnpnaaGreatDoorPkKewsaq
section
set_option linter.unusedVariables false
set_option maxRecDepth 1000000
namespace Go.Proofs.YtmcgghjeocnpnaaGreatDoor
open Go.RowKit Go.Maps

theorem LgS.grB {w w1 : World} {g : Nat → Tg} {B D : Nat} {P : Option Addr} {pc : Nat} {l : List Gt} {S : List Sg} {o : Obj} (h : LgS w g B D P pc l S) (hg : (w.alloc o).grownBy w1 (blk P)) : w1.heap[B]? = w.heap[B]? := by
  have hb : Below w.heap.size w (w.alloc o) := (Below.refl _ _).alloc (Nat.le_refl _) _
  refine (hg.block B (Nat.lt_of_lt_of_le h.lt hb.size) (fun e => ?_)).trans (hb.block B h.lt)
  have := h.gP B e.symm
  rw [h.gB] at this
  cases this
theorem LgS.cellB {w w1 : World} {g : Nat → Tg} {B D : Nat} {P : Option Addr} {pc : Nat} {l : List Gt} {S : List Sg} {o : Obj} (h : LgS w g B D P pc l S) (hg : (w.alloc o).grownBy w1 (blk P)) (i : Nat) {v : Value} (hc : w.cell? ⟨B, i, none⟩ = some v) : w1.cell? ⟨B, i, none⟩ = some v := by
  rw [World.cell?_of_block (w := w) (h.grB hg)]; exact hc
theorem LgS.frB {w w1 : World} {g : Nat → Tg} {B D : Nat} {P : Option Addr} {pc : Nat} {l : List Gt} {S : List Sg} {o : Obj} (h : LgS w g B D P pc l S) (hg : (w.alloc o).grownBy w1 (blk P)) (i : Nat) : w1.frozen? ⟨B, i, none⟩ = false := frozen_of_row _ _ _ _ _ ((h.grB hg).trans h.st)
/-- A new segment behind all others. -/
theorem LgS.add {w w1 : World} {g : Nat → Tg} {B D : Nat} {P : Option Addr} {pc : Nat} {l : List Gt} {S : List Sg} {o : Obj} {R c m : Nat} (h : LgS w g B D P pc l S) (ho : OwnG w1 (some ⟨R, 0, none⟩) c (l ++ [⟨m, (none, 0, 0), 0⟩])) (hg : (w.alloc o).grownBy w1 (blk P)) (hl : blk P = some R ∨ R = (w.alloc o).heap.size) :
    ∃ g', LgS (w1.setCell ⟨B, 1, none⟩ (.slice (some ⟨R, 0, none⟩) (l.length + 1) c)) g' B D (some ⟨R, 0, none⟩) c (l ++ [⟨m, (none, 0, 0), 0⟩]) (S ++ [⟨m, [], 0⟩]) ∧ St w (w1.setCell ⟨B, 1, none⟩ (.slice (some ⟨R, 0, none⟩) (l.length + 1) c)) g g' (fun t => t.of 1) := by
  have hb : Below w.heap.size w (w.alloc o) := (Below.refl _ _).alloc (Nat.le_refl _) _
  let g' : Nat → Tg := fun b => if b < w.heap.size then g b else .p 1
  have hg' : ∀ b, b < w.heap.size → g' b = g b := fun b hb => if_pos hb
  have hk : ∀ j, j ≠ B → (w1.setCell ⟨B, 1, none⟩ (.slice (some ⟨R, 0, none⟩) (l.length + 1) c)).heap[j]? = w1.heap[j]? := fun j hj => Below.heap_setCell _ ⟨B, 1, none⟩ _ j hj
  have hRB : R ≠ B := by
    rcases hl with e | e
    · intro e2; have := h.gP R e; rw [e2, h.gB] at this; cases this
    · have := hb.size; have := h.lt; omega
  have hgR : g' R = .p 1 := by
    rcases hl with e | e
    · rw [hg' R (h.ow.lt R e)]; exact h.gP R e
    · exact if_neg (by have := hb.size; omega)
  have hw1 : ∀ j, j < w.heap.size → g j ≠ .p 1 → w1.heap[j]? = w.heap[j]? := fun j hj hp => (hg.block j (Nat.lt_of_lt_of_le hj hb.size) (fun e => hp (h.gP j e.symm))).trans (hb.block j hj)
  have hst : St w (w1.setCell ⟨B, 1, none⟩ (.slice (some ⟨R, 0, none⟩) (l.length + 1) c)) g g' (fun t => t.of 1) := ⟨hg.os.trans hb.os, hg.tape.trans hb.tape, hg.output.trans hb.output, by simpa [World.setCell] using Nat.le_trans hb.size hg.size, fun j hj hn => (hk j (fun e => hn (by rw [e, h.gB]; rfl))).trans (hw1 j hj (fun e => hn (by rw [e]; rfl))), fun j hj => hg' j hj⟩
  have hsame : ∀ j, j < w.heap.size → g j ≠ .p 1 → g j ≠ .d 1 → (w1.setCell ⟨B, 1, none⟩ (.slice (some ⟨R, 0, none⟩) (l.length + 1) c)).heap[j]? = w.heap[j]? := fun j hj h1 h2 => (hk j (fun e => h2 (by rw [e]; exact h.gB))).trans (hw1 j hj h1)
  refine ⟨g', ⟨?_, (hg' B h.lt).trans h.gB, fun j hj => by simp [blk] at hj; subst hj; exact hgR, ho.same (fun j hj => hk j (by simp [blk] at hj; omega)), by simp [h.n], fun i t s ht hs => ?_⟩, hst⟩
  · rw [heap_setCell_same _ _ _ _ _ _ ((h.grB hg).trans h.st), List.length_append]; rfl
  · by_cases hi : i < l.length
    · rw [List.getElem?_append_left hi] at ht
      rw [List.getElem?_append_left (by rw [← h.n]; exact hi)] at hs
      have sg := h.sg i t s ht hs
      obtain ⟨vs, a1, a2⟩ := sg.vs
      refine ⟨sg.f, sg.z, sg.n, ⟨vs, a1.same9 (fun j hj => hsame j (a1.lt j hj).2 (by rw [sg.gr j hj]; intro e; cases e) (by rw [sg.gr j hj]; intro e; cases e)), ⟨a2.n, fun j y q h1 h2 => ?_⟩⟩, fun j hj => (hg' j (a1.lt j hj).2).trans (sg.gr j hj)⟩
      obtain ⟨b1, b2, b3⟩ := a2.at' j y q h1 h2
      exact ⟨b1, b2.same9 (fun k hk2 => hsame k (b3 k hk2).1 (by rw [(b3 k hk2).2]; intro e; cases e) (by rw [(b3 k hk2).2]; intro e; cases e)), fun k hk2 => ⟨Nat.lt_of_lt_of_le (b3 k hk2).1 hst.size, (hg' k (b3 k hk2).1).trans (b3 k hk2).2⟩⟩
    · have hi2 := (List.getElem?_eq_some_iff.1 ht).1
      simp at hi2
      obtain rfl : i = l.length := by omega
      rw [List.getElem?_append_right (Nat.le_refl _), Nat.sub_self] at ht
      rw [h.n, List.getElem?_append_right (Nat.le_refl _), Nat.sub_self] at hs
      simp at ht hs
      subst ht
      subst hs
      exact ⟨rfl, rfl, rfl, ⟨[], OwnS.nil _ _, ⟨rfl, fun j v r h1 => by simp at h1⟩⟩, fun k hk2 => by simp [blk] at hk2⟩
#print axioms LgS.add
set_option maxHeartbeats 4000000 in
theorem write_in (w0 : World) (g : Nat → Tg) (B D : Nat) (P : Option Addr) (pc : Nat) (l : List Gt) (S : List Sg) (M : Md) (N : Nat) (m : Int) (fx : Option Addr) (fc : Nat) (fb : List UInt8) (s : Sg) (w : World) (hE : EnvS w0) (hL : LW w0 w g) (h : LgS w g B D P pc l S) (hd : DK w g 0 D M N) (ok : SOk S) (hN : N ≤ 1400) (hf : Bs w fx fc fb) (hfl : fb.length ≤ 65600) (hlast : S.getLast? = some s) (hsz : s.size < 4096) :
    Calls Tryz.prog 64 #[.pointer (some ⟨B, 0, none⟩), .int .i64 m, .slice fx fb.length fc] w fun e w' => e = .returned (.int .i64 (M.writeE (nmS s.first) fb.length)) ∧ Hid (RL w w' g B D (M.write (nmS s.first) fb) (N + 1) S) := by
  have c0 := h.c0
  have c1 := h.c1
  rw [h.n] at c1
  obtain ⟨n, hn⟩ : ∃ n, S.length = n + 1 := by
    cases S with
    | nil => cases hlast
    | cons a r => exact ⟨r.length, rfl⟩
  rw [getLast_at S n hn] at hlast
  obtain ⟨t, s2, G, _, hs, rfl, _, d0, _, d2, _⟩ := h.at (i := n) (by omega)
  rw [hlast] at hs
  obtain rfl := Option.some.inj hs
  have hnx : s.first + s.recs.length ≤ 9223372036854775807 := ok.nx s (List.mem_of_getElem? hlast)
  have hfm : s.first ≤ 9223372036854775807 := by omega
  rw [hn] at c1
  have hn6 : n ≤ 1000000 := by have := ok.len; omega
  have HLA := hide (last_cons c1 hn6)
  have HBL : Hid (B < w.heap.size) := h.lt
  have HGL : Hid (G < w.heap.size) := World.block_lt_of_cell? w _ d0
  have HH := hide h
  have hz : (s.size : Int) < 4096 := by omega
  have HNO : Hid (∀ v, Below w.heap.size w v → Calls Tryz.prog 88 #[.int .i64 (s.first : Int)] v fun e v' => e = .returned (.string (str (nmS s.first))) ∧ Hid (Below v.heap.size v v')) := fun v hb => nameOf_any s.first v hfm (hE.below (hL.below.trans (hb.mono hL.below.size)) (Nat.le_refl _))
  have HWR : Hid (∀ v, Below w.heap.size w v → Calls Tryz.prog 96 #[.pointer (some ⟨D, 0, none⟩), .string (str (nmS s.first)), .slice fx fb.length fc] v fun e v' => e = .returned (.int .i64 (M.writeE (nmS s.first) fb.length)) ∧ Hid (RK v v' g 0 D (M.write (nmS s.first) fb) (N + 1))) := fun v hb => write_k g 0 D M N (nmS s.first) fx fc fb v (hd.below hb) hN (nm_max _ hfm) (hf.below hb (Nat.le_refl _)) hfl
  have HST2 : Hid (∀ {v : World} v', RK v v' g 0 D (M.write (nmS s.first) fb) (N + 1) → Below w.heap.size w v → v'.cell? ⟨B, 0, none⟩ = some (.pointer (some ⟨D, 0, none⟩)) ∧ v'.cell? ⟨G, n * 3, none⟩ = some (.int .i64 (s.first : Int))) := fun {v} v' x hb => ⟨x.cells (by rw [hb.cell h.lt]; exact c0) (by rw [h.gB]; rfl), x.cells (by rw [hb.cell (World.block_lt_of_cell? w _ d0)]; exact d0) (by rw [h.gP G rfl]; rfl)⟩
  clear c1 h hd ok hlast hn hnx hE hL hf
  go_enter Tryz.func64, Tryz.ntmps64
  go_wp2_with fail
  refine (unhide HLA).mono ?_
  rintro e v1 ⟨rfl, HBv1⟩
  have k0v1 : v1.cell? ⟨B, 0, none⟩ = some (.pointer (some ⟨D, 0, none⟩)) := by rw [(unhide HBv1).cell (unhide HBL)]; exact c0
  have k1v1 : v1.cell? ⟨G, n * 3, none⟩ = some (.int .i64 (s.first : Int)) := by rw [(unhide HBv1).cell (unhide HGL)]; exact d0
  have k2v1 : v1.cell? ⟨G, n * 3 + 2, none⟩ = some (.int .i64 (s.size : Int)) := by rw [(unhide HBv1).cell (unhide HGL)]; exact d2
  clear HLA
  go_upto_region 3 with fail
  refine wp_region_held_drew (S := fun w' => w'.cell? ⟨B, 0, none⟩ = some (.pointer (some ⟨D, 0, none⟩)) ∧ w'.cell? ⟨G, n * 3, none⟩ = some (.int .i64 (s.first : Int))) (by kernel_rfl) (And.intro k0v1 k1v1) (fun hHeld => ?_)
  refine wpAnyH_take (i := 0) (oi := ?_) (v := ?_) ?_ (by kernel_rfl) ?_ ?_ ?_ ?_ hHeld ?_
  rotate_left 2
  · (simp only [List.getElem?_toArray, List.getElem?_cons_zero]) <;> with_reducible rfl
  · kernel_rfl
  · kernel_rfl
  · exact fun _ _ _ h => h
  · exact Or.inl ⟨by rfl, by (intro w hSw; (try dsimp only at hSw); go_simp <;> with_reducible rfl)⟩
  simp only [Act.put, List.setIfInBounds_toArray, List.set_cons_zero, List.set_cons_succ]
  refine wpAnyH_take (i := 1) (oi := ?_) (v := ?_) ?_ (by kernel_rfl) ?_ ?_ ?_ ?_ hHeld ?_
  rotate_left 2
  · (simp only [List.getElem?_toArray, List.getElem?_cons_succ, List.getElem?_cons_zero]) <;> with_reducible rfl
  · kernel_rfl
  · kernel_rfl
  · exact fun _ _ _ h => h
  · exact Or.inl ⟨by rfl, by (intro w hSw; (try dsimp only at hSw); go_simp <;> with_reducible rfl)⟩
  simp only [Act.put, List.setIfInBounds_toArray, List.set_cons_zero, List.set_cons_succ]
  refine wpAnyH_take (i := 2) (oi := ?_) (v := ?_) ?_ (by kernel_rfl) ?_ ?_ ?_ ?_ hHeld ?_
  rotate_left 2
  · (simp only [List.getElem?_toArray, List.getElem?_cons_succ, List.getElem?_cons_zero]) <;> with_reducible rfl
  · kernel_rfl
  · kernel_rfl
  · exact fun _ _ _ h => h
  · exact Or.inl ⟨by rfl, by (intro w hSw; (try dsimp only at hSw); go_simp <;> with_reducible rfl)⟩
  simp only [Act.put, List.setIfInBounds_toArray, List.set_cons_zero, List.set_cons_succ]
  refine wpAnyH_take (i := 3) (oi := ?_) (v := ?_) ?_ (by kernel_rfl) ?_ ?_ ?_ ?_ hHeld ?_
  rotate_left 2
  · (simp only [List.getElem?_toArray, List.getElem?_cons_succ, List.getElem?_cons_zero]) <;> with_reducible rfl
  · kernel_rfl
  · kernel_rfl
  · exact fun _ _ _ h => h
  · exact Or.inl ⟨by rfl, by (intro w hSw; (try dsimp only at hSw); go_simp <;> with_reducible rfl)⟩
  simp only [Act.put, List.setIfInBounds_toArray, List.set_cons_zero, List.set_cons_succ]
  refine wpAnyH_take (i := 4) (oi := ?_) (v := ?_) ?_ (by kernel_rfl) ?_ ?_ ?_ ?_ hHeld ?_
  rotate_left 2
  · (simp only [List.getElem?_toArray, List.getElem?_cons_succ, List.getElem?_cons_zero]) <;> with_reducible rfl
  · kernel_rfl
  · kernel_rfl
  · exact fun _ _ _ h => h
  · exact Or.inl ⟨by rfl, by (intro w hSw; (try dsimp only at hSw); go_simp <;> with_reducible rfl)⟩
  simp only [Act.put, List.setIfInBounds_toArray, List.set_cons_zero, List.set_cons_succ]
  refine wpAnyH_take (i := 5) (oi := ?_) (v := ?_) ?_ (by kernel_rfl) ?_ ?_ ?_ ?_ hHeld ?_
  rotate_left 2
  · (simp only [List.getElem?_toArray, List.getElem?_cons_succ, List.getElem?_cons_zero]) <;> with_reducible rfl
  · kernel_rfl
  · kernel_rfl
  · exact fun _ _ _ h => h
  · exact Or.inl ⟨by rfl, by (intro w hSw; (try dsimp only at hSw); go_simp <;> with_reducible rfl)⟩
  simp only [Act.put, List.setIfInBounds_toArray, List.set_cons_zero, List.set_cons_succ]
  refine wpAnyH_take (i := 6) (oi := ?_) (v := ?_) ?_ (by kernel_rfl) ?_ ?_ ?_ ?_ hHeld ?_
  rotate_left 2
  · (simp only [List.getElem?_toArray, List.getElem?_cons_succ, List.getElem?_cons_zero]) <;> with_reducible rfl
  · kernel_rfl
  · kernel_rfl
  · exact fun _ _ _ h => h
  · exact Or.inl ⟨by rfl, by (intro w hSw; (try dsimp only at hSw); go_simp <;> with_reducible rfl)⟩
  simp only [Act.put, List.setIfInBounds_toArray, List.set_cons_zero, List.set_cons_succ]
  refine wpAnyH_take (i := 7) (oi := ?_) (v := ?_) ?_ (by kernel_rfl) ?_ ?_ ?_ ?_ hHeld ?_
  rotate_left 2
  · (simp only [List.getElem?_toArray, List.getElem?_cons_succ, List.getElem?_cons_zero]) <;> with_reducible rfl
  · kernel_rfl
  · kernel_rfl
  · exact fun _ _ _ h => h
  · exact Or.inl ⟨by rfl, by (intro w hSw; (try dsimp only at hSw); go_simp <;> with_reducible rfl)⟩
  simp only [Act.put, List.setIfInBounds_toArray, List.set_cons_zero, List.set_cons_succ]
  refine wpAnyH_take (i := 9) (oi := ?_) (v := ?_) ?_ (by kernel_rfl) ?_ ?_ ?_ ?_ hHeld ?_
  rotate_left 2
  · (simp only [List.getElem?_toArray, List.getElem?_cons_succ, List.getElem?_cons_zero]) <;> with_reducible rfl
  · kernel_rfl
  · kernel_rfl
  · exact fun _ _ _ h => h
  · exact Or.inl ⟨by rfl, by (intro w hSw; (try dsimp only at hSw); go_simp <;> with_reducible rfl)⟩
  simp only [Act.put, List.setIfInBounds_toArray, List.set_cons_zero, List.set_cons_succ]
  refine wpAnyH_ready (rs := [8]) (by kernel_rfl) (by simp) (AllReadyH.cons (o := ?_) ?_ (fun K hK => ?_) AllReadyH.nil)
  rotate_left 1
  · (simp only [List.getElem?_toArray, List.getElem?_cons_succ, List.getElem?_cons_zero]) <;> with_reducible rfl
  go_simp
  refine (unhide HNO _ (unhide HBv1).drew).mono ?_
  rintro e x1 ⟨rfl, HBx1'⟩
  have HBx1 : Hid (Below w.heap.size w x1) := (unhide HBv1).drew.trans ((unhide HBx1').mono (unhide HBv1).size)
  have k0x1 : x1.cell? ⟨B, 0, none⟩ = some (.pointer (some ⟨D, 0, none⟩)) := by rw [(unhide HBx1).cell (unhide HBL)]; exact c0
  have k1x1 : x1.cell? ⟨G, n * 3, none⟩ = some (.int .i64 (s.first : Int)) := by rw [(unhide HBx1).cell (unhide HGL)]; exact d0
  clear HBx1' hHeld
  refine hK.out _ _ (And.intro k0x1 k1x1) (fun hHeld => ?_)
  clear hK K
  try simp only [Act.put, List.setIfInBounds_toArray, List.set_cons_zero, List.set_cons_succ]
  refine wpAnyH_ready (rs := [10]) (by kernel_rfl) (by simp) (AllReadyH.cons (o := ?_) ?_ (fun K hK => ?_) AllReadyH.nil)
  rotate_left 1
  · (simp only [List.getElem?_toArray, List.getElem?_cons_succ, List.getElem?_cons_zero]) <;> with_reducible rfl
  go_simp
  refine (unhide HWR _ (unhide HBx1)).mono ?_
  rintro e x2 ⟨rfl, HRK⟩
  have HR2 : Hid (RL w x2 g B D (M.write (nmS s.first) fb) (N + 1) S) := RL.from (St.ofBelow g X01 (unhide HBx1)) (RL.disk ((unhide HH).below (unhide HBx1)) (unhide HRK))
  have k0x2 : x2.cell? ⟨B, 0, none⟩ = some (.pointer (some ⟨D, 0, none⟩)) := (unhide HST2 x2 (unhide HRK) (unhide HBx1)).1
  have k1x2 : x2.cell? ⟨G, n * 3, none⟩ = some (.int .i64 (s.first : Int)) := (unhide HST2 x2 (unhide HRK) (unhide HBx1)).2
  clear HRK hHeld
  refine hK.out _ _ (And.intro k0x2 k1x2) (fun hHeld => ?_)
  clear hK K
  try simp only [Act.put, List.setIfInBounds_toArray, List.set_cons_zero, List.set_cons_succ]
  refine wpAnyH_take (i := 11) (oi := ?_) (v := ?_) ?_ (by kernel_rfl) ?_ ?_ ?_ ?_ hHeld ?_
  rotate_left 2
  · (simp only [List.getElem?_toArray, List.getElem?_cons_succ, List.getElem?_cons_zero]) <;> with_reducible rfl
  · kernel_rfl
  · kernel_rfl
  · exact fun _ _ _ h => h
  · exact Or.inl ⟨by rfl, by (intro w hSw; (try dsimp only at hSw); go_simp <;> with_reducible rfl)⟩
  simp only [Act.put, List.setIfInBounds_toArray, List.set_cons_zero, List.set_cons_succ]
  refine wpAnyH_done (by kernel_rfl) ?_ _

  go_wp2_with fail
  go_ret
  exact ⟨rfl, HR2⟩
#print axioms write_in
/-- The last segment is full, or there is none. -/
def fullS (S : List Sg) : Prop := ∀ s, S.getLast? = some s → 4096 ≤ s.size
set_option maxHeartbeats 8000000 in
theorem write_new (w0 : World) (g : Nat → Tg) (B D : Nat) (P : Option Addr) (pc : Nat) (l : List Gt) (S : List Sg) (M M1 : Md) (N m : Nat) (fx : Option Addr) (fc : Nat) (fb : List UInt8) (w : World) (hE : EnvS w0) (hL : LW w0 w g) (h : LgS w g B D P pc l S) (hd : DK w g 0 D M N) (ok : SOk S) (hN : N ≤ 1300) (hm : m ≤ 9223372036854775807) (hf : Bs w fx fc fb) (hft : ∀ k, blk fx = some k → k < w.heap.size ∧ ¬ X01 (g k)) (hfl : fb.length ≤ 65600) (hfull : fullS S) (hsy : syE M S = 0) (hM1 : syM M S = M1) :
    Calls Tryz.prog 64 #[.pointer (some ⟨B, 0, none⟩), .int .i64 (m : Int), .slice fx fb.length fc] w fun e w' => e = .returned (.int .i64 (M1.writeE (nmS m) fb.length)) ∧ (M1.writeE (nmS m) fb.length ≠ 0 → RL w w' g B D (M1.write (nmS m) fb) (N + 2) S) ∧ (M1.writeE (nmS m) fb.length = 0 → RL w w' g B D (M1.write (nmS m) fb) (N + 2) (S ++ [⟨m, [], 0⟩])) := by
  have c0 := h.c0
  have c1 := h.c1
  rw [h.n] at c1
  have HSY : Hid (∀ v, Below w.heap.size w v → Calls Tryz.prog 55 #[.pointer (some ⟨B, 0, none⟩)] v fun e v' => e = .returned (.int .i64 0) ∧ Hid (RL v v' g B D M1 (N + 1) S)) := fun v hb => by
    have := sync5 w0 g B D P pc l S M N v hE ⟨hL.below.trans (hb.mono hL.below.size), hL.bas⟩ (h.below hb) (hd.below hb) ok (by omega)
    rw [hsy, hM1] at this
    exact this
  have HLW := hide hL
  have HEE := hide hE
  have HFB := hide hf
  have HFT : Hid (∀ k, blk fx = some k → k < w.heap.size ∧ ¬ X01 (g k)) := hft
  have hSl := ok.len
  by_cases h0 : S.length = 0
  · have hS : S = [] := List.eq_nil_of_length_eq_zero h0
    rw [h0] at c1
    have HLA := hide (last_nil c1)
    clear c1 h hd ok hS h0 hE hL hf hft hfull hsy hM1
    go_enter Tryz.func64, Tryz.ntmps64
    go_wp2_with fail
    refine (unhide HLA).mono ?_
    rintro e v1 ⟨rfl, hv1⟩
    have hv2 := hv1.symm
    subst hv2
    clear hv1 HLA
    go_wp2_with fail
    refine (unhide HSY _ (Below.refl _ _)).mono ?_
    rintro e y1 ⟨rfl, HRL1⟩
    clear HSY c0
    obtain ⟨g1, P1, pc1, l1, hh1, hd1, st1⟩ := unhide HRL1
    have k0y1 : y1.cell? ⟨B, 0, none⟩ = some (.pointer (some ⟨D, 0, none⟩)) := hh1.c0
    have hL1 := (unhide HLW).st2 st1 x01o
    have HNO : Hid (∀ v, Below y1.heap.size y1 v → Calls Tryz.prog 88 #[.int .i64 (m : Int)] v fun e v' => e = .returned (.string (str (nmS m))) ∧ Hid (Below v.heap.size v v')) := fun v hb => nameOf_any m v hm ((unhide HEE).below (hL1.below.trans (hb.mono hL1.below.size)) (Nat.le_refl _))
    have HWR : Hid (∀ v, Below y1.heap.size y1 v → Calls Tryz.prog 96 #[.pointer (some ⟨D, 0, none⟩), .string (str (nmS m)), .slice fx fb.length fc] v fun e v' => e = .returned (.int .i64 (M1.writeE (nmS m) fb.length)) ∧ Hid (RK v v' g1 0 D (M1.write (nmS m) fb) (N + 2))) := fun v hb => write_k g1 0 D M1 (N + 1) (nmS m) fx fc fb v (hd1.below hb) (by omega) (nm_max _ hm) (((unhide HFB).same9 (fun k hk => st1.block k (unhide HFT k hk).1 (unhide HFT k hk).2)).below hb (Nat.le_refl _)) hfl
    have HH1 := hide hh1
    have HST1 := hide st1
    generalize hwe : M1.writeE (nmS m) fb.length = E2 at HWR
    have HWE := hide hwe
    clear hh1 hd1 st1 hL1 HRL1 hwe
    go_upto_region 7 with fail
    refine wp_region_held_drew (S := fun w' => w'.cell? ⟨B, 0, none⟩ = some (.pointer (some ⟨D, 0, none⟩))) (by kernel_rfl) k0y1 (fun hHeld => ?_)
    refine wpAnyH_take (i := 0) (oi := ?_) (v := ?_) ?_ (by kernel_rfl) ?_ ?_ ?_ ?_ hHeld ?_
    rotate_left 2
    · (simp only [List.getElem?_toArray, List.getElem?_cons_zero]) <;> with_reducible rfl
    · kernel_rfl
    · kernel_rfl
    · exact fun _ _ _ h => h
    · exact Or.inl ⟨by rfl, by (intro w hSw; (try dsimp only at hSw); go_simp <;> with_reducible rfl)⟩
    simp only [Act.put, List.setIfInBounds_toArray, List.set_cons_zero, List.set_cons_succ]
    refine wpAnyH_take (i := 1) (oi := ?_) (v := ?_) ?_ (by kernel_rfl) ?_ ?_ ?_ ?_ hHeld ?_
    rotate_left 2
    · (simp only [List.getElem?_toArray, List.getElem?_cons_succ, List.getElem?_cons_zero]) <;> with_reducible rfl
    · kernel_rfl
    · kernel_rfl
    · exact fun _ _ _ h => h
    · exact Or.inl ⟨by rfl, by (intro w hSw; (try dsimp only at hSw); go_simp <;> with_reducible rfl)⟩
    simp only [Act.put, List.setIfInBounds_toArray, List.set_cons_zero, List.set_cons_succ]
    refine wpAnyH_take (i := 2) (oi := ?_) (v := ?_) ?_ (by kernel_rfl) ?_ ?_ ?_ ?_ hHeld ?_
    rotate_left 2
    · (simp only [List.getElem?_toArray, List.getElem?_cons_succ, List.getElem?_cons_zero]) <;> with_reducible rfl
    · kernel_rfl
    · kernel_rfl
    · exact fun _ _ _ h => h
    · exact Or.inl ⟨by rfl, by (intro w hSw; (try dsimp only at hSw); go_simp <;> with_reducible rfl)⟩
    simp only [Act.put, List.setIfInBounds_toArray, List.set_cons_zero, List.set_cons_succ]
    refine wpAnyH_take (i := 3) (oi := ?_) (v := ?_) ?_ (by kernel_rfl) ?_ ?_ ?_ ?_ hHeld ?_
    rotate_left 2
    · (simp only [List.getElem?_toArray, List.getElem?_cons_succ, List.getElem?_cons_zero]) <;> with_reducible rfl
    · kernel_rfl
    · kernel_rfl
    · exact fun _ _ _ h => h
    · exact Or.inl ⟨by rfl, by (intro w hSw; (try dsimp only at hSw); go_simp <;> with_reducible rfl)⟩
    simp only [Act.put, List.setIfInBounds_toArray, List.set_cons_zero, List.set_cons_succ]
    refine wpAnyH_take (i := 4) (oi := ?_) (v := ?_) ?_ (by kernel_rfl) ?_ ?_ ?_ ?_ hHeld ?_
    rotate_left 2
    · (simp only [List.getElem?_toArray, List.getElem?_cons_succ, List.getElem?_cons_zero]) <;> with_reducible rfl
    · kernel_rfl
    · kernel_rfl
    · exact fun _ _ _ h => h
    · exact Or.inl ⟨by rfl, by (intro w hSw; (try dsimp only at hSw); go_simp <;> with_reducible rfl)⟩
    simp only [Act.put, List.setIfInBounds_toArray, List.set_cons_zero, List.set_cons_succ]
    refine wpAnyH_take (i := 6) (oi := ?_) (v := ?_) ?_ (by kernel_rfl) ?_ ?_ ?_ ?_ hHeld ?_
    rotate_left 2
    · (simp only [List.getElem?_toArray, List.getElem?_cons_succ, List.getElem?_cons_zero]) <;> with_reducible rfl
    · kernel_rfl
    · kernel_rfl
    · exact fun _ _ _ h => h
    · exact Or.inl ⟨by rfl, by (intro w hSw; (try dsimp only at hSw); go_simp <;> with_reducible rfl)⟩
    simp only [Act.put, List.setIfInBounds_toArray, List.set_cons_zero, List.set_cons_succ]
    refine wpAnyH_ready (rs := [5]) (by kernel_rfl) (by simp) (AllReadyH.cons (o := ?_) ?_ (fun K hK => ?_) AllReadyH.nil)
    rotate_left 1
    · (simp only [List.getElem?_toArray, List.getElem?_cons_succ, List.getElem?_cons_zero]) <;> with_reducible rfl
    go_simp
    refine (unhide HNO _ (Below.refl _ _).drew).mono ?_
    rintro e x1 ⟨rfl, HBx1'⟩
    have HBx1 : Hid (Below y1.heap.size y1 x1) := ((Below.refl y1.heap.size y1).drew).trans ((unhide HBx1').mono (Nat.le_refl _))
    have k0x1 : x1.cell? ⟨B, 0, none⟩ = some (.pointer (some ⟨D, 0, none⟩)) := by rw [(unhide HBx1).cell (World.block_lt_of_cell? y1 _ k0y1)]; exact k0y1
    clear HBx1' hHeld
    refine hK.out _ _ k0x1 (fun hHeld => ?_)
    clear hK K
    try simp only [Act.put, List.setIfInBounds_toArray, List.set_cons_zero, List.set_cons_succ]
    refine wpAnyH_ready (rs := [7]) (by kernel_rfl) (by simp) (AllReadyH.cons (o := ?_) ?_ (fun K hK => ?_) AllReadyH.nil)
    rotate_left 1
    · (simp only [List.getElem?_toArray, List.getElem?_cons_succ, List.getElem?_cons_zero]) <;> with_reducible rfl
    go_simp
    refine (unhide HWR _ (unhide HBx1)).mono ?_
    rintro e x2 ⟨rfl, HRK⟩
    have HR2 : Hid (RL y1 x2 g1 B D (M1.write (nmS m) fb) (N + 2) S) := RL.from (St.ofBelow g1 X01 (unhide HBx1)) (RL.disk ((unhide HH1).below (unhide HBx1)) (unhide HRK))
    have k0x2 : x2.cell? ⟨B, 0, none⟩ = some (.pointer (some ⟨D, 0, none⟩)) := (unhide HRK).cells k0x1 (by rw [(unhide HH1).gB]; rfl)
    clear HRK hHeld
    refine hK.out _ _ k0x2 (fun hHeld => ?_)
    clear hK K
    try simp only [Act.put, List.setIfInBounds_toArray, List.set_cons_zero, List.set_cons_succ]
    refine wpAnyH_take (i := 8) (oi := ?_) (v := ?_) ?_ (by kernel_rfl) ?_ ?_ ?_ ?_ hHeld ?_
    rotate_left 2
    · (simp only [List.getElem?_toArray, List.getElem?_cons_succ, List.getElem?_cons_zero]) <;> with_reducible rfl
    · kernel_rfl
    · kernel_rfl
    · exact fun _ _ _ h => h
    · exact Or.inl ⟨by rfl, by (intro w hSw; (try dsimp only at hSw); go_simp <;> with_reducible rfl)⟩
    simp only [Act.put, List.setIfInBounds_toArray, List.set_cons_zero, List.set_cons_succ]
    refine wpAnyH_done (by kernel_rfl) ?_ _
    by_cases he2 : E2 = 0
    · subst he2
      obtain ⟨g2, P2, pc2, l2, hh2, hd2, st2⟩ := unhide HR2
      have c1 := hh2.c1
      have f1 := hh2.fr 1
      have HH2 := hide hh2
      have HD2 := hide hd2
      have HST2 := hide st2
      have hl2n : l2.length ≤ 1000000 := by rw [hh2.n]; exact hSl
      have HOW : Hid (OwnG (x2.alloc (.cells #[.int .i64 (m : Int), .slice none 0 0, .int .i64 0] 122)) P2 pc2 l2) := hh2.ow.below ((Below.refl _ _).alloc (Nat.le_refl _) _)
      clear hh2 hd2 st2 HR2 HWR HNO k0y1 k0x2 hHeld
      go_wp2_with (at_builtin; refine wp_appg _ rfl _ _ rfl P2 pc2 l2 l2.length rfl rfl (unhide HOW) x2.heap.size 1 ⟨m, (none, 0, 0), 0⟩ rfl (heap_alloc_new x2 _) hl2n ?_; intro R c z1 HO1 HG1 HL1; have q1 : z1.cell? ⟨B, 1, none⟩ = some (.slice P2 l2.length pc2) := (unhide HH2).cellB (unhide HG1) 1 c1; have q2 : z1.frozen? ⟨B, 1, none⟩ = false := (unhide HH2).frB (unhide HG1) 1)
      go_ret
      refine ⟨by rw [unhide HWE]; rfl, fun h => absurd (unhide HWE) h, fun _ => ?_⟩
      obtain ⟨g3, h3, s3⟩ := (unhide HH2).add (unhide HO1) (unhide HG1) (unhide HL1)
      exact ⟨g3, _, _, _, h3, (unhide HD2).keep1 s3, ((unhide HST1).trans (unhide HST2)).trans (s3.mono (fun t ht => .inr ht))⟩
    · have he2' : (E2 != 0) = true := by rw [bne_iff_ne]; exact he2
      have HNE := hide he2
      clear he2 HNO HWR k0y1 k0x2
      go_wp2_with fail
      go_ret
      exact ⟨by rw [unhide HWE]; rfl, fun _ => RL.from (unhide HST1) (unhide HR2), fun h => absurd ((unhide HWE).symm.trans h) (unhide HNE)⟩

  · obtain ⟨n, hn⟩ : ∃ n, S.length = n + 1 := ⟨S.length - 1, by omega⟩
    obtain ⟨t, s, G, _, hs, rfl, _, d0, _, d2, _⟩ := h.at (i := n) (by omega)
    have hz : ¬ (s.size : Int) < 4096 := by have := hfull s (by rw [getLast_at S n hn, hs]); omega
    rw [hn] at c1
    have hn6 : n ≤ 1000000 := by have := ok.len; omega
    have HLA := hide (last_cons c1 hn6)
    have HGL : Hid (G < w.heap.size) := World.block_lt_of_cell? w _ d0
    have HN1 : Hid (∀ v1, Below w.heap.size w v1 → RL v1 = RL v1) := fun _ _ => rfl
    clear c1 h hd ok hs hn h0 hE hL hf hft hfull hsy hM1 HN1
    go_enter Tryz.func64, Tryz.ntmps64
    go_wp2_with fail
    refine (unhide HLA).mono ?_
    rintro e v1 ⟨rfl, HBv1⟩
    have k2v1 : v1.cell? ⟨G, n * 3 + 2, none⟩ = some (.int .i64 (s.size : Int)) := by rw [(unhide HBv1).cell (unhide HGL)]; exact d2
    clear HLA
    go_wp2_with fail
    refine (unhide HSY _ (unhide HBv1)).mono ?_
    rintro e y1 ⟨rfl, HRLv⟩
    have HRL1 : Hid (RL w y1 g B D M1 (N + 1) S) := RL.from (St.ofBelow g X01 (unhide HBv1)) (unhide HRLv)
    clear HSY c0 HRLv d0 d2 k2v1
    obtain ⟨g1, P1, pc1, l1, hh1, hd1, st1⟩ := unhide HRL1
    have k0y1 : y1.cell? ⟨B, 0, none⟩ = some (.pointer (some ⟨D, 0, none⟩)) := hh1.c0
    have hL1 := (unhide HLW).st2 st1 x01o
    have HNO : Hid (∀ v, Below y1.heap.size y1 v → Calls Tryz.prog 88 #[.int .i64 (m : Int)] v fun e v' => e = .returned (.string (str (nmS m))) ∧ Hid (Below v.heap.size v v')) := fun v hb => nameOf_any m v hm ((unhide HEE).below (hL1.below.trans (hb.mono hL1.below.size)) (Nat.le_refl _))
    have HWR : Hid (∀ v, Below y1.heap.size y1 v → Calls Tryz.prog 96 #[.pointer (some ⟨D, 0, none⟩), .string (str (nmS m)), .slice fx fb.length fc] v fun e v' => e = .returned (.int .i64 (M1.writeE (nmS m) fb.length)) ∧ Hid (RK v v' g1 0 D (M1.write (nmS m) fb) (N + 2))) := fun v hb => write_k g1 0 D M1 (N + 1) (nmS m) fx fc fb v (hd1.below hb) (by omega) (nm_max _ hm) (((unhide HFB).same9 (fun k hk => st1.block k (unhide HFT k hk).1 (unhide HFT k hk).2)).below hb (Nat.le_refl _)) hfl
    have HH1 := hide hh1
    have HST1 := hide st1
    generalize hwe : M1.writeE (nmS m) fb.length = E2 at HWR
    have HWE := hide hwe
    clear hh1 hd1 st1 hL1 HRL1 hwe
    go_upto_region 7 with fail
    refine wp_region_held_drew (S := fun w' => w'.cell? ⟨B, 0, none⟩ = some (.pointer (some ⟨D, 0, none⟩))) (by kernel_rfl) k0y1 (fun hHeld => ?_)
    refine wpAnyH_take (i := 0) (oi := ?_) (v := ?_) ?_ (by kernel_rfl) ?_ ?_ ?_ ?_ hHeld ?_
    rotate_left 2
    · (simp only [List.getElem?_toArray, List.getElem?_cons_zero]) <;> with_reducible rfl
    · kernel_rfl
    · kernel_rfl
    · exact fun _ _ _ h => h
    · exact Or.inl ⟨by rfl, by (intro w hSw; (try dsimp only at hSw); go_simp <;> with_reducible rfl)⟩
    simp only [Act.put, List.setIfInBounds_toArray, List.set_cons_zero, List.set_cons_succ]
    refine wpAnyH_take (i := 1) (oi := ?_) (v := ?_) ?_ (by kernel_rfl) ?_ ?_ ?_ ?_ hHeld ?_
    rotate_left 2
    · (simp only [List.getElem?_toArray, List.getElem?_cons_succ, List.getElem?_cons_zero]) <;> with_reducible rfl
    · kernel_rfl
    · kernel_rfl
    · exact fun _ _ _ h => h
    · exact Or.inl ⟨by rfl, by (intro w hSw; (try dsimp only at hSw); go_simp <;> with_reducible rfl)⟩
    simp only [Act.put, List.setIfInBounds_toArray, List.set_cons_zero, List.set_cons_succ]
    refine wpAnyH_take (i := 2) (oi := ?_) (v := ?_) ?_ (by kernel_rfl) ?_ ?_ ?_ ?_ hHeld ?_
    rotate_left 2
    · (simp only [List.getElem?_toArray, List.getElem?_cons_succ, List.getElem?_cons_zero]) <;> with_reducible rfl
    · kernel_rfl
    · kernel_rfl
    · exact fun _ _ _ h => h
    · exact Or.inl ⟨by rfl, by (intro w hSw; (try dsimp only at hSw); go_simp <;> with_reducible rfl)⟩
    simp only [Act.put, List.setIfInBounds_toArray, List.set_cons_zero, List.set_cons_succ]
    refine wpAnyH_take (i := 3) (oi := ?_) (v := ?_) ?_ (by kernel_rfl) ?_ ?_ ?_ ?_ hHeld ?_
    rotate_left 2
    · (simp only [List.getElem?_toArray, List.getElem?_cons_succ, List.getElem?_cons_zero]) <;> with_reducible rfl
    · kernel_rfl
    · kernel_rfl
    · exact fun _ _ _ h => h
    · exact Or.inl ⟨by rfl, by (intro w hSw; (try dsimp only at hSw); go_simp <;> with_reducible rfl)⟩
    simp only [Act.put, List.setIfInBounds_toArray, List.set_cons_zero, List.set_cons_succ]
    refine wpAnyH_take (i := 4) (oi := ?_) (v := ?_) ?_ (by kernel_rfl) ?_ ?_ ?_ ?_ hHeld ?_
    rotate_left 2
    · (simp only [List.getElem?_toArray, List.getElem?_cons_succ, List.getElem?_cons_zero]) <;> with_reducible rfl
    · kernel_rfl
    · kernel_rfl
    · exact fun _ _ _ h => h
    · exact Or.inl ⟨by rfl, by (intro w hSw; (try dsimp only at hSw); go_simp <;> with_reducible rfl)⟩
    simp only [Act.put, List.setIfInBounds_toArray, List.set_cons_zero, List.set_cons_succ]
    refine wpAnyH_take (i := 6) (oi := ?_) (v := ?_) ?_ (by kernel_rfl) ?_ ?_ ?_ ?_ hHeld ?_
    rotate_left 2
    · (simp only [List.getElem?_toArray, List.getElem?_cons_succ, List.getElem?_cons_zero]) <;> with_reducible rfl
    · kernel_rfl
    · kernel_rfl
    · exact fun _ _ _ h => h
    · exact Or.inl ⟨by rfl, by (intro w hSw; (try dsimp only at hSw); go_simp <;> with_reducible rfl)⟩
    simp only [Act.put, List.setIfInBounds_toArray, List.set_cons_zero, List.set_cons_succ]
    refine wpAnyH_ready (rs := [5]) (by kernel_rfl) (by simp) (AllReadyH.cons (o := ?_) ?_ (fun K hK => ?_) AllReadyH.nil)
    rotate_left 1
    · (simp only [List.getElem?_toArray, List.getElem?_cons_succ, List.getElem?_cons_zero]) <;> with_reducible rfl
    go_simp
    refine (unhide HNO _ (Below.refl _ _).drew).mono ?_
    rintro e x1 ⟨rfl, HBx1'⟩
    have HBx1 : Hid (Below y1.heap.size y1 x1) := ((Below.refl y1.heap.size y1).drew).trans ((unhide HBx1').mono (Nat.le_refl _))
    have k0x1 : x1.cell? ⟨B, 0, none⟩ = some (.pointer (some ⟨D, 0, none⟩)) := by rw [(unhide HBx1).cell (World.block_lt_of_cell? y1 _ k0y1)]; exact k0y1
    clear HBx1' hHeld
    refine hK.out _ _ k0x1 (fun hHeld => ?_)
    clear hK K
    try simp only [Act.put, List.setIfInBounds_toArray, List.set_cons_zero, List.set_cons_succ]
    refine wpAnyH_ready (rs := [7]) (by kernel_rfl) (by simp) (AllReadyH.cons (o := ?_) ?_ (fun K hK => ?_) AllReadyH.nil)
    rotate_left 1
    · (simp only [List.getElem?_toArray, List.getElem?_cons_succ, List.getElem?_cons_zero]) <;> with_reducible rfl
    go_simp
    refine (unhide HWR _ (unhide HBx1)).mono ?_
    rintro e x2 ⟨rfl, HRK⟩
    have HR2 : Hid (RL y1 x2 g1 B D (M1.write (nmS m) fb) (N + 2) S) := RL.from (St.ofBelow g1 X01 (unhide HBx1)) (RL.disk ((unhide HH1).below (unhide HBx1)) (unhide HRK))
    have k0x2 : x2.cell? ⟨B, 0, none⟩ = some (.pointer (some ⟨D, 0, none⟩)) := (unhide HRK).cells k0x1 (by rw [(unhide HH1).gB]; rfl)
    clear HRK hHeld
    refine hK.out _ _ k0x2 (fun hHeld => ?_)
    clear hK K
    try simp only [Act.put, List.setIfInBounds_toArray, List.set_cons_zero, List.set_cons_succ]
    refine wpAnyH_take (i := 8) (oi := ?_) (v := ?_) ?_ (by kernel_rfl) ?_ ?_ ?_ ?_ hHeld ?_
    rotate_left 2
    · (simp only [List.getElem?_toArray, List.getElem?_cons_succ, List.getElem?_cons_zero]) <;> with_reducible rfl
    · kernel_rfl
    · kernel_rfl
    · exact fun _ _ _ h => h
    · exact Or.inl ⟨by rfl, by (intro w hSw; (try dsimp only at hSw); go_simp <;> with_reducible rfl)⟩
    simp only [Act.put, List.setIfInBounds_toArray, List.set_cons_zero, List.set_cons_succ]
    refine wpAnyH_done (by kernel_rfl) ?_ _
    by_cases he2 : E2 = 0
    · subst he2
      obtain ⟨g2, P2, pc2, l2, hh2, hd2, st2⟩ := unhide HR2
      have c1 := hh2.c1
      have f1 := hh2.fr 1
      have HH2 := hide hh2
      have HD2 := hide hd2
      have HST2 := hide st2
      have hl2n : l2.length ≤ 1000000 := by rw [hh2.n]; exact hSl
      have HOW : Hid (OwnG (x2.alloc (.cells #[.int .i64 (m : Int), .slice none 0 0, .int .i64 0] 122)) P2 pc2 l2) := hh2.ow.below ((Below.refl _ _).alloc (Nat.le_refl _) _)
      clear hh2 hd2 st2 HR2 HWR HNO k0y1 k0x2 hHeld
      go_wp2_with (at_builtin; refine wp_appg _ rfl _ _ rfl P2 pc2 l2 l2.length rfl rfl (unhide HOW) x2.heap.size 1 ⟨m, (none, 0, 0), 0⟩ rfl (heap_alloc_new x2 _) hl2n ?_; intro R c z1 HO1 HG1 HL1; have q1 : z1.cell? ⟨B, 1, none⟩ = some (.slice P2 l2.length pc2) := (unhide HH2).cellB (unhide HG1) 1 c1; have q2 : z1.frozen? ⟨B, 1, none⟩ = false := (unhide HH2).frB (unhide HG1) 1)
      go_ret
      refine ⟨by rw [unhide HWE]; rfl, fun h => absurd (unhide HWE) h, fun _ => ?_⟩
      obtain ⟨g3, h3, s3⟩ := (unhide HH2).add (unhide HO1) (unhide HG1) (unhide HL1)
      exact ⟨g3, _, _, _, h3, (unhide HD2).keep1 s3, ((unhide HST1).trans (unhide HST2)).trans (s3.mono (fun t ht => .inr ht))⟩
    · have he2' : (E2 != 0) = true := by rw [bne_iff_ne]; exact he2
      have HNE := hide he2
      clear he2 HNO HWR k0y1 k0x2
      go_wp2_with fail
      go_ret
      exact ⟨by rw [unhide HWE]; rfl, fun _ => RL.from (unhide HST1) (unhide HR2), fun h => absurd ((unhide HWE).symm.trans h) (unhide HNE)⟩

#print axioms write_new
end Go.Proofs.YtmcgghjeocnpnaaGreatDoor
end
