/-
  wsock: THE WALK of Write.
-/
import Derived.Test.YtegbcjfceooflaaDoorPkWptsam
import Derived.Test.YtegbcjfceooflaaDoorPkWptsad
import Derived.Deep.RegionHeld3
import Derived.Deep.DeepCutAuto
section
set_option linter.unusedVariables false
set_option maxRecDepth 1000000
namespace Go.Proofs.YtegbcjfceooflaaDoor
open Go.RowKit

def hd1 (n : Nat) (fin : Bool) : UInt8 := UInt8.ofNat (n + if fin then 128 else 0)
def mk1 (m : List UInt8) : Nat := if m = [] then 0 else 128
def hd2 (m : List UInt8) (s : Nat) : List UInt8 := if s ≤ 125 then [UInt8.ofNat (mk1 m + s)] else [UInt8.ofNat (mk1 m + 126), UInt8.ofNat (s / 256), UInt8.ofNat (s % 256)]
def wrB (n : Nat) (fin : Bool) (m l : List UInt8) : List UInt8 := hd1 n fin :: hd2 m l.length ++ m ++ xm m l
theorem or_fin : ∀ n : Fin 11, bits .or .u8 (n.val : Int) 128 = ((hd1 n.val true).toNat : Int) := by decide +kernel
theorem or_nof : ∀ n : Fin 11, ((n.val : Nat) : Int) = ((hd1 n.val false).toNat : Int) := by decide +kernel
theorem or_mk : ∀ s : Fin 126, bits .or .u8 128 (s.val : Int) = ((UInt8.ofNat (128 + s.val)).toNat : Int) := by decide +kernel
theorem or_no : ∀ s : Fin 126, bits .or .u8 0 (s.val : Int) = ((UInt8.ofNat (0 + s.val)).toNat : Int) := by decide +kernel
theorem own_lit1 (w : World) (base : Nat) (c : UInt8) (hb : base ≤ w.heap.size) : OwnB (w.alloc (.cells #[.int .u8 (c.toNat : Int)] 5)) base (some ⟨w.heap.size, 0, none⟩) 1 [c] :=
  ⟨by simp [bs], .inr ⟨w.heap.size, 1, #[.int .u8 (c.toNat : Int)], rfl, hb, heap_alloc_new w _, Nat.le_refl _, by unfold maxLen; omega, rfl, by simp [bs]⟩⟩
/-- A frame's block. -/
def FrC (w : World) (Z : Nat) (fin : Bool) (op : Int) (x : Option Addr) (n c : Nat) : Prop := w.cell? ⟨Z, 0, none⟩ = some (.bool fin) ∧ w.cell? ⟨Z, 1, none⟩ = some (.int .i64 op) ∧ w.cell? ⟨Z, 2, none⟩ = some (.slice x n c)
theorem FrC.lt {w : World} {Z : Nat} {fin : Bool} {op : Int} {x : Option Addr} {n c : Nat} (h : FrC w Z fin op x n c) : Z < w.heap.size := World.block_lt_of_cell? w _ h.1
theorem FrC.below {w w' : World} {Z B : Nat} {fin : Bool} {op : Int} {x : Option Addr} {n c : Nat} (h : FrC w Z fin op x n c) (hb : Below B w w') (hZ : Z < B) : FrC w' Z fin op x n c :=
  ⟨(hb.cell (show Z < B from hZ)).trans h.1, (hb.cell (show Z < B from hZ)).trans h.2.1, (hb.cell (show Z < B from hZ)).trans h.2.2⟩
theorem FrC.new (w : World) (fin : Bool) (op : Int) (x : Option Addr) (n c : Nat) : FrC (w.alloc (.cells #[.bool fin, .int .i64 op, .slice x n c] 44)) w.heap.size fin op x n c := by
  refine ⟨?_, ?_, ?_⟩ <;> simp

theorem FrC.neB {w : World} {Z base k : Nat} {y : Option Addr} {l : List UInt8} {fin : Bool} {op : Int} {x : Option Addr} {n c : Nat} (h : w.heap[Z]? = some (.cells #[.bool fin, .int .i64 op, .slice x n c] 44 (0, 0))) (o : OwnB w base y k l) : blk y ≠ some Z := by
  intro e
  rcases o.cases with ⟨rfl, _, _⟩ | ⟨g, cur, rfl, _, hg, _⟩
  · simp [blk] at e
  · simp [blk] at e
    subst e
    rw [hg] at h
    simp at h

/-- What stays while a frame's bytes are joined: the frame's block, the load, the mask. -/
structure WJ (w : World) (fin : Bool) (op : Int) (x : Option Addr) (cx : Nat) (l : List UInt8) (b : Option Addr) (cb : Nat) (m : List UInt8) (W : World) : Prop where
  bel : Below w.heap.size w W
  fr : W.heap[w.heap.size]? = some (.cells #[.bool fin, .int .i64 op, .slice x l.length cx] 44 (0, 0))
  load : Bs W x cx l
  mask : Bs W b cb m
section
variable {w : World} {fin : Bool} {op : Int} {x : Option Addr} {cx : Nat} {l : List UInt8} {b : Option Addr} {cb : Nat} {m : List UInt8} {W : World}
theorem WJ.lt (h : WJ w fin op x cx l b cb m W) : w.heap.size < W.heap.size := (Array.getElem?_eq_some_iff.1 h.fr).1
theorem WJ.below (h : WJ w fin op x cx l b cb m W) {W' : World} (hb : Below W.heap.size W W') : WJ w fin op x cx l b cb m W' :=
  ⟨h.bel.trans (hb.mono h.bel.size), (hb.block _ h.lt).trans h.fr, h.load.below hb (Nat.le_refl _), h.mask.below hb (Nat.le_refl _)⟩
/-- An append to a row made since. -/
theorem WJ.app (h : WJ w fin op x cx l b cb m W) {W' : World} {y : Option Addr} {k : Nat} {r : List UInt8} (o : OwnB W (w.heap.size + 1) y k r) (hL : Bs w x cx l) (hM : Bs w b cb m) (hg : W.grownBy W' (blk y)) : WJ w fin op x cx l b cb m W' := by
  have hB : Below w.heap.size w W' := h.bel.grown hg h.bel.size (fun k hk => by have := (o.lt k hk).1; omega)
  refine ⟨hB, ?_, hL.below hB (Nat.le_refl _), hM.below hB (Nat.le_refl _)⟩
  rw [hg.block _ h.lt (fun e => by have := (o.lt _ e.symm).1; omega)]
  exact h.fr
theorem WJ.start (w : World) (hL : Bs w x cx l) (hM : Bs w b cb m) : WJ w fin op x cx l b cb m (w.alloc (.cells #[.bool fin, .int .i64 op, .slice x l.length cx] 44)) := by
  have hB : Below w.heap.size w (w.alloc (.cells #[.bool fin, .int .i64 op, .slice x l.length cx] 44)) := (Below.refl _ _).alloc (Nat.le_refl _) _
  exact ⟨hB, heap_alloc_new w _, hL.below hB (Nat.le_refl _), hM.below hB (Nat.le_refl _)⟩
end
theorem xm_length (m l : List UInt8) : (xm m l).length = l.length := by
  unfold xm
  split
  · rfl
  · exact pm_length _ _ _
def hdB (n : Nat) (fin : Bool) (m : List UInt8) (s : Nat) : List UInt8 := hd1 n fin :: hd2 m s
theorem own_litz (w : World) (base : Nat) (z : Int) (c : UInt8) (h : z = (c.toNat : Int)) (hb : base ≤ w.heap.size) : OwnB (w.alloc (.cells #[.int .u8 z] 5)) base (some ⟨w.heap.size, 0, none⟩) 1 [c] := by
  subst h
  exact own_lit1 w base c hb

set_option linter.unusedSimpArgs false in
set_option maxHeartbeats 4000000 in
theorem write_tms (n : Nat) (hn : n ≤ 10) (x : Option Addr) (cx : Nat) (l : List UInt8) (b : Option Addr) (cb : Nat) (m : List UInt8) (w : World) (hL : Bs w x cx l) (hM : Bs w b cb m) (hm : m.length = 4) (hmay : mayB (n : Int) true (l.length : Int) = true) (hl : l.length ≤ 16384) (h125 : l.length ≤ 125) :
    Calls Tryd.prog 13 #[.agg #[.bool true, .int .i64 (n : Int), .slice x l.length cx], .slice b m.length cb] w fun e w' => ∃ a' c' r, e = .returned (.tuple #[.slice a' r.length c', .int .i64 0]) ∧ Hid (r = wrB n true m l) ∧ Hid (OwnB w' w.heap.size a' c' r) ∧ Hid (Below w.heap.size w w') := by
  have HL := hide hL
  have HM := hide hM
  have HMY := hide hmay
  clear hmay
  have hg2 : IntKind.u8.wrap (n : Int) = (n : Int) := by rw [IntKind.wrap_u8]; omega
  have hs2 : IntKind.u8.wrap (l.length : Int) = (l.length : Int) := by rw [IntKind.wrap_u8]; omega
  have d1 : decide ((16384 : Int) < (l.length : Int)) = false := decide_eq_false (by omega)
  have d2 : decide ((l.length : Int) ≤ 125) = true := decide_eq_true (by omega)
  have hmz : ((m.length : Int) != 0) = true := by rw [hm]; rfl
  have hm4 : ((m.length : Int) != 4) = false := by rw [hm]; rfl
  have hmp : (0 : Int) < (m.length : Int) := by omega
  obtain ⟨c1, hc1⟩ : ∃ c, c = hd1 n true := ⟨_, rfl⟩
  obtain ⟨c2, hc2⟩ : ∃ c, c = UInt8.ofNat (mk1 m + l.length) := ⟨_, rfl⟩
  have HW : Hid (([c1] ++ [c2] ++ m) ++ xm m l = wrB n true m l) := by
    show _ = _
    rw [hc1, hc2]
    unfold wrB hd2
    rw [if_pos h125]
    simp
  have hf : bits .or .u8 (n : Int) 128 = (c1.toNat : Int) := by rw [hc1]; exact or_fin ⟨n, by omega⟩
  have hk : bits .or .u8 128 (l.length : Int) = (c2.toNat : Int) := by rw [hc2, mk1, if_neg (by intro e; rw [e] at hm; simp at hm)]; exact or_mk ⟨l.length, by omega⟩
  have HML := hide hm
  have HMM : Hid (m = [] ∨ m.length = 4) := .inr hm
  have hml : m.length ≤ 4 := by omega
  clear hc1 hc2 hm
  go_enter Tryd.func13, Tryd.ntmps13
  go_wp2_with fail
  refine (mayBe_any (n : Int) true (l.length : Int) _).mono ?_
  rintro e w2 ⟨rfl, hw2⟩
  rw [unhide HMY]
  have WS := hide (WJ.start (fin := true) (op := (n : Int)) w hL hM)
  rw [← hw2] at WS
  have HW2 : Hid (w2.heap.size = w.heap.size + 1) := by show _ = _; rw [hw2]; simp
  have hwle : w.heap.size + 1 ≤ w2.heap.size := by rw [unhide HW2]; exact Nat.le_refl _
  have hz2 : w.heap.size < w2.heap.size := by omega
  clear hw2 hL hM
  have f0 : w2.cell? ⟨w.heap.size, 0, none⟩ = some (.bool true) := by rw [cell_of_row w2 w.heap.size 0 _ _ _ (unhide WS).fr]; rfl
  have f1 : w2.cell? ⟨w.heap.size, 1, none⟩ = some (.int .i64 (n : Int)) := by rw [cell_of_row w2 w.heap.size 1 _ _ _ (unhide WS).fr]; rfl
  have f2 : w2.cell? ⟨w.heap.size, 2, none⟩ = some (.slice x l.length cx) := by rw [cell_of_row w2 w.heap.size 2 _ _ _ (unhide WS).fr]; rfl
  have HRL : Hid (Row ((w2.alloc (.cells #[.int .u8 (c1.toNat : Int)] 5)).alloc (.cells #[.int .u8 (c2.toNat : Int)] 5)) (some ⟨w2.heap.size + 1, 0, none⟩) [c2]) := by
    have := row_lit (w2.alloc (.cells #[.int .u8 (c1.toNat : Int)] 5)) (c2.toNat : Int) c2 rfl
    rw [show (w2.alloc (.cells #[.int .u8 (c1.toNat : Int)] 5)).heap.size = w2.heap.size + 1 by simp] at this
    exact this
  go_wp2_with (at_builtin; refine wp_app2 _ rfl _ _ rfl (w.heap.size + 1) (some ⟨w2.heap.size, 0, none⟩) 1 [c1] rfl ((own_lit1 w2 _ c1 hwle).alloc _) (some ⟨w2.heap.size + 1, 0, none⟩) 1 [c2] 1 rfl rfl (unhide HRL) (fun h => by cases h) (by simp) (Nat.le_trans hwle (by simp; omega)) ?_)
  intro a3 k3 r3 w3 hr3 ho3 hg3 hl3
  have HJ3 : Hid (WJ w true (n : Int) x cx l b cb m w3) := by
    have j1 := ((unhide WS).below (W' := w2.alloc (.cells #[.int .u8 (c1.toNat : Int)] 5)) ((Below.refl _ _).alloc (Nat.le_refl _) _)).below (W' := (w2.alloc (.cells #[.int .u8 (c1.toNat : Int)] 5)).alloc (.cells #[.int .u8 (c2.toNat : Int)] 5)) ((Below.refl _ _).alloc (Nat.le_refl _) _)
    exact j1.app ((own_lit1 w2 _ c1 hwle).alloc _) (unhide HL) (unhide HM) hg3
  have HO3 := hide ho3
  have HR3 : Hid (r3 = [c1] ++ [c2]) := hr3
  have hr3l : r3.length ≤ 4 := by rw [unhide HR3]; simp
  have HJ := hide ((unhide HJ3).below (W' := w3.drew) (Below.refl _ _).drew)
  have HO := hide ((unhide HO3).below (w' := w3.drew) (Below.refl _ _).drew (Nat.le_refl _))
  have s3 : w3.drew.cell? ⟨w.heap.size, 2, none⟩ = some (.slice x l.length cx) := by rw [cell_of_row w3.drew w.heap.size 2 _ _ _ (unhide HJ).fr]; rfl
  clear ho3 hr3 hg3 hl3 f0 f1 f2 HRL WS hwle hz2 HJ3 HO3
  go_wp2_with fail
  refine wp_region_held_drew (S := fun w' => w'.cell? ⟨w.heap.size, 2, none⟩ = some (.slice x l.length cx)) (by kernel_rfl) s3 (fun hHeld => ?_)
  refine wpAnyH_take (i := 0) (oi := ?_) (v := ?_) ?_ (by kernel_rfl) ?_ ?_ ?_ ?_ hHeld ?_
  rotate_left 2
  · (simp only [List.getElem?_toArray, List.getElem?_cons_succ, List.getElem?_cons_zero]) <;> with_reducible rfl
  · kernel_rfl
  · kernel_rfl
  · exact fun _ _ _ h => h
  · exact Or.inl ⟨by rfl, by (intro w hSw; (try dsimp only at hSw); go_simp <;> with_reducible rfl)⟩
  try simp only [Act.put, List.setIfInBounds_toArray, List.set_cons_zero, List.set_cons_succ]
  refine wpAnyH_take (i := 1) (oi := ?_) (v := ?_) ?_ (by kernel_rfl) ?_ ?_ ?_ ?_ hHeld ?_
  rotate_left 2
  · (simp only [List.getElem?_toArray, List.getElem?_cons_succ, List.getElem?_cons_zero]) <;> with_reducible rfl
  · kernel_rfl
  · kernel_rfl
  · exact fun _ _ _ h => h
  · exact Or.inl ⟨by rfl, by (intro w hSw; (try dsimp only at hSw); go_simp <;> with_reducible rfl)⟩
  try simp only [Act.put, List.setIfInBounds_toArray, List.set_cons_zero, List.set_cons_succ]
  refine wpAnyH_take (i := 3) (oi := ?_) (v := ?_) ?_ (by kernel_rfl) ?_ ?_ ?_ ?_ hHeld ?_
  rotate_left 2
  · (simp only [List.getElem?_toArray, List.getElem?_cons_succ, List.getElem?_cons_zero]) <;> with_reducible rfl
  · kernel_rfl
  · kernel_rfl
  · exact fun _ _ _ h => h
  · exact Or.inl ⟨by rfl, by (intro w hSw; (try dsimp only at hSw); go_simp <;> with_reducible rfl)⟩
  try simp only [Act.put, List.setIfInBounds_toArray, List.set_cons_zero, List.set_cons_succ]
  refine wpAnyH_take (i := 4) (oi := ?_) (v := ?_) ?_ (by kernel_rfl) ?_ ?_ ?_ ?_ hHeld ?_
  rotate_left 2
  · (simp only [List.getElem?_toArray, List.getElem?_cons_succ, List.getElem?_cons_zero]) <;> with_reducible rfl
  · kernel_rfl
  · kernel_rfl
  · exact fun _ _ _ h => h
  · exact Or.inl ⟨by rfl, by (intro w hSw; (try dsimp only at hSw); go_simp <;> with_reducible rfl)⟩
  try simp only [Act.put, List.setIfInBounds_toArray, List.set_cons_zero, List.set_cons_succ]
  refine wpAnyH_take (i := 5) (oi := ?_) (v := ?_) ?_ (by kernel_rfl) ?_ ?_ ?_ ?_ hHeld ?_
  rotate_left 2
  · (simp only [List.getElem?_toArray, List.getElem?_cons_succ, List.getElem?_cons_zero]) <;> with_reducible rfl
  · kernel_rfl
  · kernel_rfl
  · exact fun _ _ _ h => h
  · exact Or.inl ⟨by rfl, by (intro w hSw; (try dsimp only at hSw); go_simp <;> with_reducible rfl)⟩
  try simp only [Act.put, List.setIfInBounds_toArray, List.set_cons_zero, List.set_cons_succ]
  refine wpAnyH_ready (rs := [2]) (by kernel_rfl) (by simp) (AllReadyH.cons (o := ?_) ?_ (fun K hK => ?_) AllReadyH.nil)
  rotate_left 1
  · (simp only [List.getElem?_toArray, List.getElem?_cons_succ, List.getElem?_cons_zero]) <;> with_reducible rfl
  refine stp_app2 _ rfl _ _ rfl (w.heap.size + 1) a3 k3 r3 _ rfl rfl (unhide HO) b cb m _ rfl rfl (unhide HJ).mask.row (unhide HJ).mask.nz (by omega) (unhide HJ).lt ?_
  intro a4 k4 r4 w4 hr4 ho4 hg4 hl4
  have HJ4 := hide ((unhide HJ).app (unhide HO) (unhide HL) (unhide HM) (unhide hg4))
  have s4 : w4.cell? ⟨w.heap.size, 2, none⟩ = some (.slice x l.length cx) := by rw [cell_of_row w4 w.heap.size 2 _ _ _ (unhide HJ4).fr]; rfl
  clear hHeld HJ HO
  refine hK.out _ _ s4 (fun hHeld => ?_)
  clear hK K
  try simp only [Act.put, List.setIfInBounds_toArray, List.set_cons_zero, List.set_cons_succ]
  refine wpAnyH_ready (rs := [6]) (by kernel_rfl) (by simp) (AllReadyH.cons (o := ?_) ?_ (fun K hK => ?_) AllReadyH.nil)
  rotate_left 1
  · (simp only [List.getElem?_toArray, List.getElem?_cons_succ, List.getElem?_cons_zero]) <;> with_reducible rfl
  go_simp
  refine (wmask_any x cx l b cb m _ (unhide HJ4).load (unhide HJ4).mask (by omega) (unhide HMM)).mono ?_
  rintro e w5 ⟨a5, c5, r5, rfl, hr5, ho5, hb5⟩
  have HJ5 := hide ((unhide HJ4).below (unhide hb5))
  have HO4 := hide ((unhide ho4).below (unhide hb5) (Nat.le_refl _))
  have s5 : w5.cell? ⟨w.heap.size, 2, none⟩ = some (.slice x l.length cx) := by rw [cell_of_row w5 w.heap.size 2 _ _ _ (unhide HJ5).fr]; rfl
  clear hHeld s4
  refine hK.out _ _ s5 (fun hHeld => ?_)
  clear hK K
  try simp only [Act.put, List.setIfInBounds_toArray, List.set_cons_zero, List.set_cons_succ]
  refine wpAnyH_ready (rs := [7]) (by kernel_rfl) (by simp) (AllReadyH.cons (o := ?_) ?_ (fun K hK => ?_) AllReadyH.nil)
  rotate_left 1
  · (simp only [List.getElem?_toArray, List.getElem?_cons_succ, List.getElem?_cons_zero]) <;> with_reducible rfl
  have hr4l : r4.length ≤ 8 := by rw [unhide hr4, List.length_append]; omega
  have hr5l : r5.length ≤ 16384 := by rw [unhide hr5, xm_length]; exact hl
  refine stp_app2 _ rfl _ _ rfl (w.heap.size + 1) a4 k4 r4 _ rfl rfl (unhide HO4) a5 c5 r5 _ rfl rfl (unhide ho5).toBs.row (unhide ho5).toBs.nz (by omega) (unhide HJ5).lt ?_
  intro a6 k6 r6 w6 hr6 ho6 hg6 hl6
  have HJ6 := hide ((unhide HJ5).app (unhide HO4) (unhide HL) (unhide HM) (unhide hg6))
  have s6 : w6.cell? ⟨w.heap.size, 2, none⟩ = some (.slice x l.length cx) := by rw [cell_of_row w6 w.heap.size 2 _ _ _ (unhide HJ6).fr]; rfl
  clear hHeld s5
  refine hK.out _ _ s6 (fun hHeld => ?_)
  clear hK K
  try simp only [Act.put, List.setIfInBounds_toArray, List.set_cons_zero, List.set_cons_succ]
  refine wpAnyH_take (i := 8) (oi := ?_) (v := ?_) ?_ (by kernel_rfl) ?_ ?_ ?_ ?_ hHeld ?_
  rotate_left 2
  · (simp only [List.getElem?_toArray, List.getElem?_cons_succ, List.getElem?_cons_zero]) <;> with_reducible rfl
  · kernel_rfl
  · kernel_rfl
  · exact fun _ _ _ h => h
  · exact Or.inl ⟨by rfl, by (intro w hSw; (try dsimp only at hSw); go_simp <;> with_reducible rfl)⟩
  try simp only [Act.put, List.setIfInBounds_toArray, List.set_cons_zero, List.set_cons_succ]
  refine wpAnyH_take (i := 9) (oi := ?_) (v := ?_) ?_ (by kernel_rfl) ?_ ?_ ?_ ?_ hHeld ?_
  rotate_left 2
  · (simp only [List.getElem?_toArray, List.getElem?_cons_succ, List.getElem?_cons_zero]) <;> with_reducible rfl
  · kernel_rfl
  · kernel_rfl
  · exact fun _ _ _ h => h
  · exact Or.inl ⟨by rfl, by (intro w hSw; (try dsimp only at hSw); go_simp <;> with_reducible rfl)⟩
  try simp only [Act.put, List.setIfInBounds_toArray, List.set_cons_zero, List.set_cons_succ]
  refine wpAnyH_done (by kernel_rfl) ?_ _
  clear hHeld s6
  go_wp2
  go_ret2
  exact ⟨a6, k6, r6, rfl, by show _ = _; rw [unhide hr6, unhide hr4, unhide hr5, unhide HR3]; exact unhide HW, (unhide ho6).base (Nat.le_succ _), (unhide HJ6).bel⟩

set_option linter.unusedSimpArgs false in
set_option maxHeartbeats 4000000 in
theorem write_fms (n : Nat) (hn : n ≤ 10) (x : Option Addr) (cx : Nat) (l : List UInt8) (b : Option Addr) (cb : Nat) (m : List UInt8) (w : World) (hL : Bs w x cx l) (hM : Bs w b cb m) (hm : m.length = 4) (hmay : mayB (n : Int) false (l.length : Int) = true) (hl : l.length ≤ 16384) (h125 : l.length ≤ 125) :
    Calls Tryd.prog 13 #[.agg #[.bool false, .int .i64 (n : Int), .slice x l.length cx], .slice b m.length cb] w fun e w' => ∃ a' c' r, e = .returned (.tuple #[.slice a' r.length c', .int .i64 0]) ∧ Hid (r = wrB n false m l) ∧ Hid (OwnB w' w.heap.size a' c' r) ∧ Hid (Below w.heap.size w w') := by
  have HL := hide hL
  have HM := hide hM
  have HMY := hide hmay
  clear hmay
  have hg2 : IntKind.u8.wrap (n : Int) = (n : Int) := by rw [IntKind.wrap_u8]; omega
  have hs2 : IntKind.u8.wrap (l.length : Int) = (l.length : Int) := by rw [IntKind.wrap_u8]; omega
  have d1 : decide ((16384 : Int) < (l.length : Int)) = false := decide_eq_false (by omega)
  have d2 : decide ((l.length : Int) ≤ 125) = true := decide_eq_true (by omega)
  have hmz : ((m.length : Int) != 0) = true := by rw [hm]; rfl
  have hm4 : ((m.length : Int) != 4) = false := by rw [hm]; rfl
  have hmp : (0 : Int) < (m.length : Int) := by omega
  obtain ⟨c1, hc1⟩ : ∃ c, c = hd1 n false := ⟨_, rfl⟩
  obtain ⟨c2, hc2⟩ : ∃ c, c = UInt8.ofNat (mk1 m + l.length) := ⟨_, rfl⟩
  have HW : Hid (([c1] ++ [c2] ++ m) ++ xm m l = wrB n false m l) := by
    show _ = _
    rw [hc1, hc2]
    unfold wrB hd2
    rw [if_pos h125]
    simp
  have HF : Hid ((n : Int) = (c1.toNat : Int)) := by show _ = _; rw [hc1]; exact or_nof ⟨n, by omega⟩
  have hk : bits .or .u8 128 (l.length : Int) = (c2.toNat : Int) := by rw [hc2, mk1, if_neg (by intro e; rw [e] at hm; simp at hm)]; exact or_mk ⟨l.length, by omega⟩
  have HML := hide hm
  have HMM : Hid (m = [] ∨ m.length = 4) := .inr hm
  have hml : m.length ≤ 4 := by omega
  clear hc1 hc2 hm
  go_enter Tryd.func13, Tryd.ntmps13
  go_wp2_with fail
  refine (mayBe_any (n : Int) false (l.length : Int) _).mono ?_
  rintro e w2 ⟨rfl, hw2⟩
  rw [unhide HMY]
  have WS := hide (WJ.start (fin := false) (op := (n : Int)) w hL hM)
  rw [← hw2] at WS
  have HW2 : Hid (w2.heap.size = w.heap.size + 1) := by show _ = _; rw [hw2]; simp
  have hwle : w.heap.size + 1 ≤ w2.heap.size := by rw [unhide HW2]; exact Nat.le_refl _
  have hz2 : w.heap.size < w2.heap.size := by omega
  clear hw2 hL hM
  have f0 : w2.cell? ⟨w.heap.size, 0, none⟩ = some (.bool false) := by rw [cell_of_row w2 w.heap.size 0 _ _ _ (unhide WS).fr]; rfl
  have f1 : w2.cell? ⟨w.heap.size, 1, none⟩ = some (.int .i64 (n : Int)) := by rw [cell_of_row w2 w.heap.size 1 _ _ _ (unhide WS).fr]; rfl
  have f2 : w2.cell? ⟨w.heap.size, 2, none⟩ = some (.slice x l.length cx) := by rw [cell_of_row w2 w.heap.size 2 _ _ _ (unhide WS).fr]; rfl
  have HRL : Hid (Row ((w2.alloc (.cells #[.int .u8 (n : Int)] 5)).alloc (.cells #[.int .u8 (c2.toNat : Int)] 5)) (some ⟨w2.heap.size + 1, 0, none⟩) [c2]) := by
    have := row_lit (w2.alloc (.cells #[.int .u8 (n : Int)] 5)) (c2.toNat : Int) c2 rfl
    rw [show (w2.alloc (.cells #[.int .u8 (n : Int)] 5)).heap.size = w2.heap.size + 1 by simp] at this
    exact this
  go_wp2_with (at_builtin; refine wp_app2 _ rfl _ _ rfl (w.heap.size + 1) (some ⟨w2.heap.size, 0, none⟩) 1 [c1] rfl ((own_litz w2 _ (n : Int) c1 (unhide HF) hwle).alloc _) (some ⟨w2.heap.size + 1, 0, none⟩) 1 [c2] 1 rfl rfl (unhide HRL) (fun h => by cases h) (by simp) (Nat.le_trans hwle (by simp; omega)) ?_)
  intro a3 k3 r3 w3 hr3 ho3 hg3 hl3
  have HJ3 : Hid (WJ w false (n : Int) x cx l b cb m w3) := by
    have j1 := ((unhide WS).below (W' := w2.alloc (.cells #[.int .u8 (n : Int)] 5)) ((Below.refl _ _).alloc (Nat.le_refl _) _)).below (W' := (w2.alloc (.cells #[.int .u8 (n : Int)] 5)).alloc (.cells #[.int .u8 (c2.toNat : Int)] 5)) ((Below.refl _ _).alloc (Nat.le_refl _) _)
    exact j1.app ((own_litz w2 _ (n : Int) c1 (unhide HF) hwle).alloc _) (unhide HL) (unhide HM) hg3
  have HO3 := hide ho3
  have HR3 : Hid (r3 = [c1] ++ [c2]) := hr3
  have hr3l : r3.length ≤ 4 := by rw [unhide HR3]; simp
  have HJ := hide ((unhide HJ3).below (W' := w3.drew) (Below.refl _ _).drew)
  have HO := hide ((unhide HO3).below (w' := w3.drew) (Below.refl _ _).drew (Nat.le_refl _))
  have s3 : w3.drew.cell? ⟨w.heap.size, 2, none⟩ = some (.slice x l.length cx) := by rw [cell_of_row w3.drew w.heap.size 2 _ _ _ (unhide HJ).fr]; rfl
  clear ho3 hr3 hg3 hl3 f0 f1 f2 HRL WS hwle hz2 HJ3 HO3
  go_wp2_with fail
  refine wp_region_held_drew (S := fun w' => w'.cell? ⟨w.heap.size, 2, none⟩ = some (.slice x l.length cx)) (by kernel_rfl) s3 (fun hHeld => ?_)
  refine wpAnyH_take (i := 0) (oi := ?_) (v := ?_) ?_ (by kernel_rfl) ?_ ?_ ?_ ?_ hHeld ?_
  rotate_left 2
  · (simp only [List.getElem?_toArray, List.getElem?_cons_succ, List.getElem?_cons_zero]) <;> with_reducible rfl
  · kernel_rfl
  · kernel_rfl
  · exact fun _ _ _ h => h
  · exact Or.inl ⟨by rfl, by (intro w hSw; (try dsimp only at hSw); go_simp <;> with_reducible rfl)⟩
  try simp only [Act.put, List.setIfInBounds_toArray, List.set_cons_zero, List.set_cons_succ]
  refine wpAnyH_take (i := 1) (oi := ?_) (v := ?_) ?_ (by kernel_rfl) ?_ ?_ ?_ ?_ hHeld ?_
  rotate_left 2
  · (simp only [List.getElem?_toArray, List.getElem?_cons_succ, List.getElem?_cons_zero]) <;> with_reducible rfl
  · kernel_rfl
  · kernel_rfl
  · exact fun _ _ _ h => h
  · exact Or.inl ⟨by rfl, by (intro w hSw; (try dsimp only at hSw); go_simp <;> with_reducible rfl)⟩
  try simp only [Act.put, List.setIfInBounds_toArray, List.set_cons_zero, List.set_cons_succ]
  refine wpAnyH_take (i := 3) (oi := ?_) (v := ?_) ?_ (by kernel_rfl) ?_ ?_ ?_ ?_ hHeld ?_
  rotate_left 2
  · (simp only [List.getElem?_toArray, List.getElem?_cons_succ, List.getElem?_cons_zero]) <;> with_reducible rfl
  · kernel_rfl
  · kernel_rfl
  · exact fun _ _ _ h => h
  · exact Or.inl ⟨by rfl, by (intro w hSw; (try dsimp only at hSw); go_simp <;> with_reducible rfl)⟩
  try simp only [Act.put, List.setIfInBounds_toArray, List.set_cons_zero, List.set_cons_succ]
  refine wpAnyH_take (i := 4) (oi := ?_) (v := ?_) ?_ (by kernel_rfl) ?_ ?_ ?_ ?_ hHeld ?_
  rotate_left 2
  · (simp only [List.getElem?_toArray, List.getElem?_cons_succ, List.getElem?_cons_zero]) <;> with_reducible rfl
  · kernel_rfl
  · kernel_rfl
  · exact fun _ _ _ h => h
  · exact Or.inl ⟨by rfl, by (intro w hSw; (try dsimp only at hSw); go_simp <;> with_reducible rfl)⟩
  try simp only [Act.put, List.setIfInBounds_toArray, List.set_cons_zero, List.set_cons_succ]
  refine wpAnyH_take (i := 5) (oi := ?_) (v := ?_) ?_ (by kernel_rfl) ?_ ?_ ?_ ?_ hHeld ?_
  rotate_left 2
  · (simp only [List.getElem?_toArray, List.getElem?_cons_succ, List.getElem?_cons_zero]) <;> with_reducible rfl
  · kernel_rfl
  · kernel_rfl
  · exact fun _ _ _ h => h
  · exact Or.inl ⟨by rfl, by (intro w hSw; (try dsimp only at hSw); go_simp <;> with_reducible rfl)⟩
  try simp only [Act.put, List.setIfInBounds_toArray, List.set_cons_zero, List.set_cons_succ]
  refine wpAnyH_ready (rs := [2]) (by kernel_rfl) (by simp) (AllReadyH.cons (o := ?_) ?_ (fun K hK => ?_) AllReadyH.nil)
  rotate_left 1
  · (simp only [List.getElem?_toArray, List.getElem?_cons_succ, List.getElem?_cons_zero]) <;> with_reducible rfl
  refine stp_app2 _ rfl _ _ rfl (w.heap.size + 1) a3 k3 r3 _ rfl rfl (unhide HO) b cb m _ rfl rfl (unhide HJ).mask.row (unhide HJ).mask.nz (by omega) (unhide HJ).lt ?_
  intro a4 k4 r4 w4 hr4 ho4 hg4 hl4
  have HJ4 := hide ((unhide HJ).app (unhide HO) (unhide HL) (unhide HM) (unhide hg4))
  have s4 : w4.cell? ⟨w.heap.size, 2, none⟩ = some (.slice x l.length cx) := by rw [cell_of_row w4 w.heap.size 2 _ _ _ (unhide HJ4).fr]; rfl
  clear hHeld HJ HO
  refine hK.out _ _ s4 (fun hHeld => ?_)
  clear hK K
  try simp only [Act.put, List.setIfInBounds_toArray, List.set_cons_zero, List.set_cons_succ]
  refine wpAnyH_ready (rs := [6]) (by kernel_rfl) (by simp) (AllReadyH.cons (o := ?_) ?_ (fun K hK => ?_) AllReadyH.nil)
  rotate_left 1
  · (simp only [List.getElem?_toArray, List.getElem?_cons_succ, List.getElem?_cons_zero]) <;> with_reducible rfl
  go_simp
  refine (wmask_any x cx l b cb m _ (unhide HJ4).load (unhide HJ4).mask (by omega) (unhide HMM)).mono ?_
  rintro e w5 ⟨a5, c5, r5, rfl, hr5, ho5, hb5⟩
  have HJ5 := hide ((unhide HJ4).below (unhide hb5))
  have HO4 := hide ((unhide ho4).below (unhide hb5) (Nat.le_refl _))
  have s5 : w5.cell? ⟨w.heap.size, 2, none⟩ = some (.slice x l.length cx) := by rw [cell_of_row w5 w.heap.size 2 _ _ _ (unhide HJ5).fr]; rfl
  clear hHeld s4
  refine hK.out _ _ s5 (fun hHeld => ?_)
  clear hK K
  try simp only [Act.put, List.setIfInBounds_toArray, List.set_cons_zero, List.set_cons_succ]
  refine wpAnyH_ready (rs := [7]) (by kernel_rfl) (by simp) (AllReadyH.cons (o := ?_) ?_ (fun K hK => ?_) AllReadyH.nil)
  rotate_left 1
  · (simp only [List.getElem?_toArray, List.getElem?_cons_succ, List.getElem?_cons_zero]) <;> with_reducible rfl
  have hr4l : r4.length ≤ 8 := by rw [unhide hr4, List.length_append]; omega
  have hr5l : r5.length ≤ 16384 := by rw [unhide hr5, xm_length]; exact hl
  refine stp_app2 _ rfl _ _ rfl (w.heap.size + 1) a4 k4 r4 _ rfl rfl (unhide HO4) a5 c5 r5 _ rfl rfl (unhide ho5).toBs.row (unhide ho5).toBs.nz (by omega) (unhide HJ5).lt ?_
  intro a6 k6 r6 w6 hr6 ho6 hg6 hl6
  have HJ6 := hide ((unhide HJ5).app (unhide HO4) (unhide HL) (unhide HM) (unhide hg6))
  have s6 : w6.cell? ⟨w.heap.size, 2, none⟩ = some (.slice x l.length cx) := by rw [cell_of_row w6 w.heap.size 2 _ _ _ (unhide HJ6).fr]; rfl
  clear hHeld s5
  refine hK.out _ _ s6 (fun hHeld => ?_)
  clear hK K
  try simp only [Act.put, List.setIfInBounds_toArray, List.set_cons_zero, List.set_cons_succ]
  refine wpAnyH_take (i := 8) (oi := ?_) (v := ?_) ?_ (by kernel_rfl) ?_ ?_ ?_ ?_ hHeld ?_
  rotate_left 2
  · (simp only [List.getElem?_toArray, List.getElem?_cons_succ, List.getElem?_cons_zero]) <;> with_reducible rfl
  · kernel_rfl
  · kernel_rfl
  · exact fun _ _ _ h => h
  · exact Or.inl ⟨by rfl, by (intro w hSw; (try dsimp only at hSw); go_simp <;> with_reducible rfl)⟩
  try simp only [Act.put, List.setIfInBounds_toArray, List.set_cons_zero, List.set_cons_succ]
  refine wpAnyH_take (i := 9) (oi := ?_) (v := ?_) ?_ (by kernel_rfl) ?_ ?_ ?_ ?_ hHeld ?_
  rotate_left 2
  · (simp only [List.getElem?_toArray, List.getElem?_cons_succ, List.getElem?_cons_zero]) <;> with_reducible rfl
  · kernel_rfl
  · kernel_rfl
  · exact fun _ _ _ h => h
  · exact Or.inl ⟨by rfl, by (intro w hSw; (try dsimp only at hSw); go_simp <;> with_reducible rfl)⟩
  try simp only [Act.put, List.setIfInBounds_toArray, List.set_cons_zero, List.set_cons_succ]
  refine wpAnyH_done (by kernel_rfl) ?_ _
  clear hHeld s6
  go_wp2
  go_ret2
  exact ⟨a6, k6, r6, rfl, by show _ = _; rw [unhide hr6, unhide hr4, unhide hr5, unhide HR3]; exact unhide HW, (unhide ho6).base (Nat.le_succ _), (unhide HJ6).bel⟩

set_option linter.unusedSimpArgs false in
set_option maxHeartbeats 4000000 in
theorem write_tns (n : Nat) (hn : n ≤ 10) (x : Option Addr) (cx : Nat) (l : List UInt8) (b : Option Addr) (cb : Nat) (m : List UInt8) (w : World) (hL : Bs w x cx l) (hM : Bs w b cb m) (hm : m = []) (hmay : mayB (n : Int) true (l.length : Int) = true) (hl : l.length ≤ 16384) (h125 : l.length ≤ 125) :
    Calls Tryd.prog 13 #[.agg #[.bool true, .int .i64 (n : Int), .slice x l.length cx], .slice b m.length cb] w fun e w' => ∃ a' c' r, e = .returned (.tuple #[.slice a' r.length c', .int .i64 0]) ∧ Hid (r = wrB n true m l) ∧ Hid (OwnB w' w.heap.size a' c' r) ∧ Hid (Below w.heap.size w w') := by
  have HL := hide hL
  have HM := hide hM
  have HMY := hide hmay
  clear hmay
  have hg2 : IntKind.u8.wrap (n : Int) = (n : Int) := by rw [IntKind.wrap_u8]; omega
  have hs2 : IntKind.u8.wrap (l.length : Int) = (l.length : Int) := by rw [IntKind.wrap_u8]; omega
  have d1 : decide ((16384 : Int) < (l.length : Int)) = false := decide_eq_false (by omega)
  have d2 : decide ((l.length : Int) ≤ 125) = true := decide_eq_true (by omega)
  have hmz : ((m.length : Int) != 0) = false := by rw [hm]; rfl
  have hmp : ¬ (0 : Int) < (m.length : Int) := by rw [hm]; simp
  obtain ⟨c1, hc1⟩ : ∃ c, c = hd1 n true := ⟨_, rfl⟩
  obtain ⟨c2, hc2⟩ : ∃ c, c = UInt8.ofNat (mk1 m + l.length) := ⟨_, rfl⟩
  have HW : Hid (([c1] ++ [c2] ++ m) ++ xm m l = wrB n true m l) := by
    show _ = _
    rw [hc1, hc2]
    unfold wrB hd2
    rw [if_pos h125]
    simp
  have hf : bits .or .u8 (n : Int) 128 = (c1.toNat : Int) := by rw [hc1]; exact or_fin ⟨n, by omega⟩
  have hk : bits .or .u8 0 (l.length : Int) = (c2.toNat : Int) := by rw [hc2, mk1, if_pos hm]; exact or_no ⟨l.length, by omega⟩
  have HML := hide hm
  have HMM : Hid (m = [] ∨ m.length = 4) := .inl hm
  have hml : m.length ≤ 4 := by rw [hm]; simp
  clear hc1 hc2 hm
  go_enter Tryd.func13, Tryd.ntmps13
  go_wp2_with fail
  refine (mayBe_any (n : Int) true (l.length : Int) _).mono ?_
  rintro e w2 ⟨rfl, hw2⟩
  rw [unhide HMY]
  have WS := hide (WJ.start (fin := true) (op := (n : Int)) w hL hM)
  rw [← hw2] at WS
  have HW2 : Hid (w2.heap.size = w.heap.size + 1) := by show _ = _; rw [hw2]; simp
  have hwle : w.heap.size + 1 ≤ w2.heap.size := by rw [unhide HW2]; exact Nat.le_refl _
  have hz2 : w.heap.size < w2.heap.size := by omega
  clear hw2 hL hM
  have f0 : w2.cell? ⟨w.heap.size, 0, none⟩ = some (.bool true) := by rw [cell_of_row w2 w.heap.size 0 _ _ _ (unhide WS).fr]; rfl
  have f1 : w2.cell? ⟨w.heap.size, 1, none⟩ = some (.int .i64 (n : Int)) := by rw [cell_of_row w2 w.heap.size 1 _ _ _ (unhide WS).fr]; rfl
  have f2 : w2.cell? ⟨w.heap.size, 2, none⟩ = some (.slice x l.length cx) := by rw [cell_of_row w2 w.heap.size 2 _ _ _ (unhide WS).fr]; rfl
  have HRL : Hid (Row ((w2.alloc (.cells #[.int .u8 (c1.toNat : Int)] 5)).alloc (.cells #[.int .u8 (c2.toNat : Int)] 5)) (some ⟨w2.heap.size + 1, 0, none⟩) [c2]) := by
    have := row_lit (w2.alloc (.cells #[.int .u8 (c1.toNat : Int)] 5)) (c2.toNat : Int) c2 rfl
    rw [show (w2.alloc (.cells #[.int .u8 (c1.toNat : Int)] 5)).heap.size = w2.heap.size + 1 by simp] at this
    exact this
  go_wp2_with (at_builtin; refine wp_app2 _ rfl _ _ rfl (w.heap.size + 1) (some ⟨w2.heap.size, 0, none⟩) 1 [c1] rfl ((own_lit1 w2 _ c1 hwle).alloc _) (some ⟨w2.heap.size + 1, 0, none⟩) 1 [c2] 1 rfl rfl (unhide HRL) (fun h => by cases h) (by simp) (Nat.le_trans hwle (by simp; omega)) ?_)
  intro a3 k3 r3 w3 hr3 ho3 hg3 hl3
  have HJ3 : Hid (WJ w true (n : Int) x cx l b cb m w3) := by
    have j1 := ((unhide WS).below (W' := w2.alloc (.cells #[.int .u8 (c1.toNat : Int)] 5)) ((Below.refl _ _).alloc (Nat.le_refl _) _)).below (W' := (w2.alloc (.cells #[.int .u8 (c1.toNat : Int)] 5)).alloc (.cells #[.int .u8 (c2.toNat : Int)] 5)) ((Below.refl _ _).alloc (Nat.le_refl _) _)
    exact j1.app ((own_lit1 w2 _ c1 hwle).alloc _) (unhide HL) (unhide HM) hg3
  have HO3 := hide ho3
  have HR3 : Hid (r3 = [c1] ++ [c2]) := hr3
  have hr3l : r3.length ≤ 4 := by rw [unhide HR3]; simp
  have HJ := hide ((unhide HJ3).below (W' := w3.drew) (Below.refl _ _).drew)
  have HO := hide ((unhide HO3).below (w' := w3.drew) (Below.refl _ _).drew (Nat.le_refl _))
  have s3 : w3.drew.cell? ⟨w.heap.size, 2, none⟩ = some (.slice x l.length cx) := by rw [cell_of_row w3.drew w.heap.size 2 _ _ _ (unhide HJ).fr]; rfl
  clear ho3 hr3 hg3 hl3 f0 f1 f2 HRL WS hwle hz2 HJ3 HO3
  go_wp2_with fail
  refine wp_region_held_drew (S := fun w' => w'.cell? ⟨w.heap.size, 2, none⟩ = some (.slice x l.length cx)) (by kernel_rfl) s3 (fun hHeld => ?_)
  refine wpAnyH_take (i := 0) (oi := ?_) (v := ?_) ?_ (by kernel_rfl) ?_ ?_ ?_ ?_ hHeld ?_
  rotate_left 2
  · (simp only [List.getElem?_toArray, List.getElem?_cons_succ, List.getElem?_cons_zero]) <;> with_reducible rfl
  · kernel_rfl
  · kernel_rfl
  · exact fun _ _ _ h => h
  · exact Or.inl ⟨by rfl, by (intro w hSw; (try dsimp only at hSw); go_simp <;> with_reducible rfl)⟩
  try simp only [Act.put, List.setIfInBounds_toArray, List.set_cons_zero, List.set_cons_succ]
  refine wpAnyH_take (i := 1) (oi := ?_) (v := ?_) ?_ (by kernel_rfl) ?_ ?_ ?_ ?_ hHeld ?_
  rotate_left 2
  · (simp only [List.getElem?_toArray, List.getElem?_cons_succ, List.getElem?_cons_zero]) <;> with_reducible rfl
  · kernel_rfl
  · kernel_rfl
  · exact fun _ _ _ h => h
  · exact Or.inl ⟨by rfl, by (intro w hSw; (try dsimp only at hSw); go_simp <;> with_reducible rfl)⟩
  try simp only [Act.put, List.setIfInBounds_toArray, List.set_cons_zero, List.set_cons_succ]
  refine wpAnyH_take (i := 3) (oi := ?_) (v := ?_) ?_ (by kernel_rfl) ?_ ?_ ?_ ?_ hHeld ?_
  rotate_left 2
  · (simp only [List.getElem?_toArray, List.getElem?_cons_succ, List.getElem?_cons_zero]) <;> with_reducible rfl
  · kernel_rfl
  · kernel_rfl
  · exact fun _ _ _ h => h
  · exact Or.inl ⟨by rfl, by (intro w hSw; (try dsimp only at hSw); go_simp <;> with_reducible rfl)⟩
  try simp only [Act.put, List.setIfInBounds_toArray, List.set_cons_zero, List.set_cons_succ]
  refine wpAnyH_take (i := 4) (oi := ?_) (v := ?_) ?_ (by kernel_rfl) ?_ ?_ ?_ ?_ hHeld ?_
  rotate_left 2
  · (simp only [List.getElem?_toArray, List.getElem?_cons_succ, List.getElem?_cons_zero]) <;> with_reducible rfl
  · kernel_rfl
  · kernel_rfl
  · exact fun _ _ _ h => h
  · exact Or.inl ⟨by rfl, by (intro w hSw; (try dsimp only at hSw); go_simp <;> with_reducible rfl)⟩
  try simp only [Act.put, List.setIfInBounds_toArray, List.set_cons_zero, List.set_cons_succ]
  refine wpAnyH_take (i := 5) (oi := ?_) (v := ?_) ?_ (by kernel_rfl) ?_ ?_ ?_ ?_ hHeld ?_
  rotate_left 2
  · (simp only [List.getElem?_toArray, List.getElem?_cons_succ, List.getElem?_cons_zero]) <;> with_reducible rfl
  · kernel_rfl
  · kernel_rfl
  · exact fun _ _ _ h => h
  · exact Or.inl ⟨by rfl, by (intro w hSw; (try dsimp only at hSw); go_simp <;> with_reducible rfl)⟩
  try simp only [Act.put, List.setIfInBounds_toArray, List.set_cons_zero, List.set_cons_succ]
  refine wpAnyH_ready (rs := [2]) (by kernel_rfl) (by simp) (AllReadyH.cons (o := ?_) ?_ (fun K hK => ?_) AllReadyH.nil)
  rotate_left 1
  · (simp only [List.getElem?_toArray, List.getElem?_cons_succ, List.getElem?_cons_zero]) <;> with_reducible rfl
  refine stp_app2 _ rfl _ _ rfl (w.heap.size + 1) a3 k3 r3 _ rfl rfl (unhide HO) b cb m _ rfl rfl (unhide HJ).mask.row (unhide HJ).mask.nz (by omega) (unhide HJ).lt ?_
  intro a4 k4 r4 w4 hr4 ho4 hg4 hl4
  have HJ4 := hide ((unhide HJ).app (unhide HO) (unhide HL) (unhide HM) (unhide hg4))
  have s4 : w4.cell? ⟨w.heap.size, 2, none⟩ = some (.slice x l.length cx) := by rw [cell_of_row w4 w.heap.size 2 _ _ _ (unhide HJ4).fr]; rfl
  clear hHeld HJ HO
  refine hK.out _ _ s4 (fun hHeld => ?_)
  clear hK K
  try simp only [Act.put, List.setIfInBounds_toArray, List.set_cons_zero, List.set_cons_succ]
  refine wpAnyH_ready (rs := [6]) (by kernel_rfl) (by simp) (AllReadyH.cons (o := ?_) ?_ (fun K hK => ?_) AllReadyH.nil)
  rotate_left 1
  · (simp only [List.getElem?_toArray, List.getElem?_cons_succ, List.getElem?_cons_zero]) <;> with_reducible rfl
  go_simp
  refine (wmask_any x cx l b cb m _ (unhide HJ4).load (unhide HJ4).mask (by omega) (unhide HMM)).mono ?_
  rintro e w5 ⟨a5, c5, r5, rfl, hr5, ho5, hb5⟩
  have HJ5 := hide ((unhide HJ4).below (unhide hb5))
  have HO4 := hide ((unhide ho4).below (unhide hb5) (Nat.le_refl _))
  have s5 : w5.cell? ⟨w.heap.size, 2, none⟩ = some (.slice x l.length cx) := by rw [cell_of_row w5 w.heap.size 2 _ _ _ (unhide HJ5).fr]; rfl
  clear hHeld s4
  refine hK.out _ _ s5 (fun hHeld => ?_)
  clear hK K
  try simp only [Act.put, List.setIfInBounds_toArray, List.set_cons_zero, List.set_cons_succ]
  refine wpAnyH_ready (rs := [7]) (by kernel_rfl) (by simp) (AllReadyH.cons (o := ?_) ?_ (fun K hK => ?_) AllReadyH.nil)
  rotate_left 1
  · (simp only [List.getElem?_toArray, List.getElem?_cons_succ, List.getElem?_cons_zero]) <;> with_reducible rfl
  have hr4l : r4.length ≤ 8 := by rw [unhide hr4, List.length_append]; omega
  have hr5l : r5.length ≤ 16384 := by rw [unhide hr5, xm_length]; exact hl
  refine stp_app2 _ rfl _ _ rfl (w.heap.size + 1) a4 k4 r4 _ rfl rfl (unhide HO4) a5 c5 r5 _ rfl rfl (unhide ho5).toBs.row (unhide ho5).toBs.nz (by omega) (unhide HJ5).lt ?_
  intro a6 k6 r6 w6 hr6 ho6 hg6 hl6
  have HJ6 := hide ((unhide HJ5).app (unhide HO4) (unhide HL) (unhide HM) (unhide hg6))
  have s6 : w6.cell? ⟨w.heap.size, 2, none⟩ = some (.slice x l.length cx) := by rw [cell_of_row w6 w.heap.size 2 _ _ _ (unhide HJ6).fr]; rfl
  clear hHeld s5
  refine hK.out _ _ s6 (fun hHeld => ?_)
  clear hK K
  try simp only [Act.put, List.setIfInBounds_toArray, List.set_cons_zero, List.set_cons_succ]
  refine wpAnyH_take (i := 8) (oi := ?_) (v := ?_) ?_ (by kernel_rfl) ?_ ?_ ?_ ?_ hHeld ?_
  rotate_left 2
  · (simp only [List.getElem?_toArray, List.getElem?_cons_succ, List.getElem?_cons_zero]) <;> with_reducible rfl
  · kernel_rfl
  · kernel_rfl
  · exact fun _ _ _ h => h
  · exact Or.inl ⟨by rfl, by (intro w hSw; (try dsimp only at hSw); go_simp <;> with_reducible rfl)⟩
  try simp only [Act.put, List.setIfInBounds_toArray, List.set_cons_zero, List.set_cons_succ]
  refine wpAnyH_take (i := 9) (oi := ?_) (v := ?_) ?_ (by kernel_rfl) ?_ ?_ ?_ ?_ hHeld ?_
  rotate_left 2
  · (simp only [List.getElem?_toArray, List.getElem?_cons_succ, List.getElem?_cons_zero]) <;> with_reducible rfl
  · kernel_rfl
  · kernel_rfl
  · exact fun _ _ _ h => h
  · exact Or.inl ⟨by rfl, by (intro w hSw; (try dsimp only at hSw); go_simp <;> with_reducible rfl)⟩
  try simp only [Act.put, List.setIfInBounds_toArray, List.set_cons_zero, List.set_cons_succ]
  refine wpAnyH_done (by kernel_rfl) ?_ _
  clear hHeld s6
  go_wp2
  go_ret2
  exact ⟨a6, k6, r6, rfl, by show _ = _; rw [unhide hr6, unhide hr4, unhide hr5, unhide HR3]; exact unhide HW, (unhide ho6).base (Nat.le_succ _), (unhide HJ6).bel⟩

set_option linter.unusedSimpArgs false in
set_option maxHeartbeats 4000000 in
theorem write_fns (n : Nat) (hn : n ≤ 10) (x : Option Addr) (cx : Nat) (l : List UInt8) (b : Option Addr) (cb : Nat) (m : List UInt8) (w : World) (hL : Bs w x cx l) (hM : Bs w b cb m) (hm : m = []) (hmay : mayB (n : Int) false (l.length : Int) = true) (hl : l.length ≤ 16384) (h125 : l.length ≤ 125) :
    Calls Tryd.prog 13 #[.agg #[.bool false, .int .i64 (n : Int), .slice x l.length cx], .slice b m.length cb] w fun e w' => ∃ a' c' r, e = .returned (.tuple #[.slice a' r.length c', .int .i64 0]) ∧ Hid (r = wrB n false m l) ∧ Hid (OwnB w' w.heap.size a' c' r) ∧ Hid (Below w.heap.size w w') := by
  have HL := hide hL
  have HM := hide hM
  have HMY := hide hmay
  clear hmay
  have hg2 : IntKind.u8.wrap (n : Int) = (n : Int) := by rw [IntKind.wrap_u8]; omega
  have hs2 : IntKind.u8.wrap (l.length : Int) = (l.length : Int) := by rw [IntKind.wrap_u8]; omega
  have d1 : decide ((16384 : Int) < (l.length : Int)) = false := decide_eq_false (by omega)
  have d2 : decide ((l.length : Int) ≤ 125) = true := decide_eq_true (by omega)
  have hmz : ((m.length : Int) != 0) = false := by rw [hm]; rfl
  have hmp : ¬ (0 : Int) < (m.length : Int) := by rw [hm]; simp
  obtain ⟨c1, hc1⟩ : ∃ c, c = hd1 n false := ⟨_, rfl⟩
  obtain ⟨c2, hc2⟩ : ∃ c, c = UInt8.ofNat (mk1 m + l.length) := ⟨_, rfl⟩
  have HW : Hid (([c1] ++ [c2] ++ m) ++ xm m l = wrB n false m l) := by
    show _ = _
    rw [hc1, hc2]
    unfold wrB hd2
    rw [if_pos h125]
    simp
  have HF : Hid ((n : Int) = (c1.toNat : Int)) := by show _ = _; rw [hc1]; exact or_nof ⟨n, by omega⟩
  have hk : bits .or .u8 0 (l.length : Int) = (c2.toNat : Int) := by rw [hc2, mk1, if_pos hm]; exact or_no ⟨l.length, by omega⟩
  have HML := hide hm
  have HMM : Hid (m = [] ∨ m.length = 4) := .inl hm
  have hml : m.length ≤ 4 := by rw [hm]; simp
  clear hc1 hc2 hm
  go_enter Tryd.func13, Tryd.ntmps13
  go_wp2_with fail
  refine (mayBe_any (n : Int) false (l.length : Int) _).mono ?_
  rintro e w2 ⟨rfl, hw2⟩
  rw [unhide HMY]
  have WS := hide (WJ.start (fin := false) (op := (n : Int)) w hL hM)
  rw [← hw2] at WS
  have HW2 : Hid (w2.heap.size = w.heap.size + 1) := by show _ = _; rw [hw2]; simp
  have hwle : w.heap.size + 1 ≤ w2.heap.size := by rw [unhide HW2]; exact Nat.le_refl _
  have hz2 : w.heap.size < w2.heap.size := by omega
  clear hw2 hL hM
  have f0 : w2.cell? ⟨w.heap.size, 0, none⟩ = some (.bool false) := by rw [cell_of_row w2 w.heap.size 0 _ _ _ (unhide WS).fr]; rfl
  have f1 : w2.cell? ⟨w.heap.size, 1, none⟩ = some (.int .i64 (n : Int)) := by rw [cell_of_row w2 w.heap.size 1 _ _ _ (unhide WS).fr]; rfl
  have f2 : w2.cell? ⟨w.heap.size, 2, none⟩ = some (.slice x l.length cx) := by rw [cell_of_row w2 w.heap.size 2 _ _ _ (unhide WS).fr]; rfl
  have HRL : Hid (Row ((w2.alloc (.cells #[.int .u8 (n : Int)] 5)).alloc (.cells #[.int .u8 (c2.toNat : Int)] 5)) (some ⟨w2.heap.size + 1, 0, none⟩) [c2]) := by
    have := row_lit (w2.alloc (.cells #[.int .u8 (n : Int)] 5)) (c2.toNat : Int) c2 rfl
    rw [show (w2.alloc (.cells #[.int .u8 (n : Int)] 5)).heap.size = w2.heap.size + 1 by simp] at this
    exact this
  go_wp2_with (at_builtin; refine wp_app2 _ rfl _ _ rfl (w.heap.size + 1) (some ⟨w2.heap.size, 0, none⟩) 1 [c1] rfl ((own_litz w2 _ (n : Int) c1 (unhide HF) hwle).alloc _) (some ⟨w2.heap.size + 1, 0, none⟩) 1 [c2] 1 rfl rfl (unhide HRL) (fun h => by cases h) (by simp) (Nat.le_trans hwle (by simp; omega)) ?_)
  intro a3 k3 r3 w3 hr3 ho3 hg3 hl3
  have HJ3 : Hid (WJ w false (n : Int) x cx l b cb m w3) := by
    have j1 := ((unhide WS).below (W' := w2.alloc (.cells #[.int .u8 (n : Int)] 5)) ((Below.refl _ _).alloc (Nat.le_refl _) _)).below (W' := (w2.alloc (.cells #[.int .u8 (n : Int)] 5)).alloc (.cells #[.int .u8 (c2.toNat : Int)] 5)) ((Below.refl _ _).alloc (Nat.le_refl _) _)
    exact j1.app ((own_litz w2 _ (n : Int) c1 (unhide HF) hwle).alloc _) (unhide HL) (unhide HM) hg3
  have HO3 := hide ho3
  have HR3 : Hid (r3 = [c1] ++ [c2]) := hr3
  have hr3l : r3.length ≤ 4 := by rw [unhide HR3]; simp
  have HJ := hide ((unhide HJ3).below (W' := w3.drew) (Below.refl _ _).drew)
  have HO := hide ((unhide HO3).below (w' := w3.drew) (Below.refl _ _).drew (Nat.le_refl _))
  have s3 : w3.drew.cell? ⟨w.heap.size, 2, none⟩ = some (.slice x l.length cx) := by rw [cell_of_row w3.drew w.heap.size 2 _ _ _ (unhide HJ).fr]; rfl
  clear ho3 hr3 hg3 hl3 f0 f1 f2 HRL WS hwle hz2 HJ3 HO3
  go_wp2_with fail
  refine wp_region_held_drew (S := fun w' => w'.cell? ⟨w.heap.size, 2, none⟩ = some (.slice x l.length cx)) (by kernel_rfl) s3 (fun hHeld => ?_)
  refine wpAnyH_take (i := 0) (oi := ?_) (v := ?_) ?_ (by kernel_rfl) ?_ ?_ ?_ ?_ hHeld ?_
  rotate_left 2
  · (simp only [List.getElem?_toArray, List.getElem?_cons_succ, List.getElem?_cons_zero]) <;> with_reducible rfl
  · kernel_rfl
  · kernel_rfl
  · exact fun _ _ _ h => h
  · exact Or.inl ⟨by rfl, by (intro w hSw; (try dsimp only at hSw); go_simp <;> with_reducible rfl)⟩
  try simp only [Act.put, List.setIfInBounds_toArray, List.set_cons_zero, List.set_cons_succ]
  refine wpAnyH_take (i := 1) (oi := ?_) (v := ?_) ?_ (by kernel_rfl) ?_ ?_ ?_ ?_ hHeld ?_
  rotate_left 2
  · (simp only [List.getElem?_toArray, List.getElem?_cons_succ, List.getElem?_cons_zero]) <;> with_reducible rfl
  · kernel_rfl
  · kernel_rfl
  · exact fun _ _ _ h => h
  · exact Or.inl ⟨by rfl, by (intro w hSw; (try dsimp only at hSw); go_simp <;> with_reducible rfl)⟩
  try simp only [Act.put, List.setIfInBounds_toArray, List.set_cons_zero, List.set_cons_succ]
  refine wpAnyH_take (i := 3) (oi := ?_) (v := ?_) ?_ (by kernel_rfl) ?_ ?_ ?_ ?_ hHeld ?_
  rotate_left 2
  · (simp only [List.getElem?_toArray, List.getElem?_cons_succ, List.getElem?_cons_zero]) <;> with_reducible rfl
  · kernel_rfl
  · kernel_rfl
  · exact fun _ _ _ h => h
  · exact Or.inl ⟨by rfl, by (intro w hSw; (try dsimp only at hSw); go_simp <;> with_reducible rfl)⟩
  try simp only [Act.put, List.setIfInBounds_toArray, List.set_cons_zero, List.set_cons_succ]
  refine wpAnyH_take (i := 4) (oi := ?_) (v := ?_) ?_ (by kernel_rfl) ?_ ?_ ?_ ?_ hHeld ?_
  rotate_left 2
  · (simp only [List.getElem?_toArray, List.getElem?_cons_succ, List.getElem?_cons_zero]) <;> with_reducible rfl
  · kernel_rfl
  · kernel_rfl
  · exact fun _ _ _ h => h
  · exact Or.inl ⟨by rfl, by (intro w hSw; (try dsimp only at hSw); go_simp <;> with_reducible rfl)⟩
  try simp only [Act.put, List.setIfInBounds_toArray, List.set_cons_zero, List.set_cons_succ]
  refine wpAnyH_take (i := 5) (oi := ?_) (v := ?_) ?_ (by kernel_rfl) ?_ ?_ ?_ ?_ hHeld ?_
  rotate_left 2
  · (simp only [List.getElem?_toArray, List.getElem?_cons_succ, List.getElem?_cons_zero]) <;> with_reducible rfl
  · kernel_rfl
  · kernel_rfl
  · exact fun _ _ _ h => h
  · exact Or.inl ⟨by rfl, by (intro w hSw; (try dsimp only at hSw); go_simp <;> with_reducible rfl)⟩
  try simp only [Act.put, List.setIfInBounds_toArray, List.set_cons_zero, List.set_cons_succ]
  refine wpAnyH_ready (rs := [2]) (by kernel_rfl) (by simp) (AllReadyH.cons (o := ?_) ?_ (fun K hK => ?_) AllReadyH.nil)
  rotate_left 1
  · (simp only [List.getElem?_toArray, List.getElem?_cons_succ, List.getElem?_cons_zero]) <;> with_reducible rfl
  refine stp_app2 _ rfl _ _ rfl (w.heap.size + 1) a3 k3 r3 _ rfl rfl (unhide HO) b cb m _ rfl rfl (unhide HJ).mask.row (unhide HJ).mask.nz (by omega) (unhide HJ).lt ?_
  intro a4 k4 r4 w4 hr4 ho4 hg4 hl4
  have HJ4 := hide ((unhide HJ).app (unhide HO) (unhide HL) (unhide HM) (unhide hg4))
  have s4 : w4.cell? ⟨w.heap.size, 2, none⟩ = some (.slice x l.length cx) := by rw [cell_of_row w4 w.heap.size 2 _ _ _ (unhide HJ4).fr]; rfl
  clear hHeld HJ HO
  refine hK.out _ _ s4 (fun hHeld => ?_)
  clear hK K
  try simp only [Act.put, List.setIfInBounds_toArray, List.set_cons_zero, List.set_cons_succ]
  refine wpAnyH_ready (rs := [6]) (by kernel_rfl) (by simp) (AllReadyH.cons (o := ?_) ?_ (fun K hK => ?_) AllReadyH.nil)
  rotate_left 1
  · (simp only [List.getElem?_toArray, List.getElem?_cons_succ, List.getElem?_cons_zero]) <;> with_reducible rfl
  go_simp
  refine (wmask_any x cx l b cb m _ (unhide HJ4).load (unhide HJ4).mask (by omega) (unhide HMM)).mono ?_
  rintro e w5 ⟨a5, c5, r5, rfl, hr5, ho5, hb5⟩
  have HJ5 := hide ((unhide HJ4).below (unhide hb5))
  have HO4 := hide ((unhide ho4).below (unhide hb5) (Nat.le_refl _))
  have s5 : w5.cell? ⟨w.heap.size, 2, none⟩ = some (.slice x l.length cx) := by rw [cell_of_row w5 w.heap.size 2 _ _ _ (unhide HJ5).fr]; rfl
  clear hHeld s4
  refine hK.out _ _ s5 (fun hHeld => ?_)
  clear hK K
  try simp only [Act.put, List.setIfInBounds_toArray, List.set_cons_zero, List.set_cons_succ]
  refine wpAnyH_ready (rs := [7]) (by kernel_rfl) (by simp) (AllReadyH.cons (o := ?_) ?_ (fun K hK => ?_) AllReadyH.nil)
  rotate_left 1
  · (simp only [List.getElem?_toArray, List.getElem?_cons_succ, List.getElem?_cons_zero]) <;> with_reducible rfl
  have hr4l : r4.length ≤ 8 := by rw [unhide hr4, List.length_append]; omega
  have hr5l : r5.length ≤ 16384 := by rw [unhide hr5, xm_length]; exact hl
  refine stp_app2 _ rfl _ _ rfl (w.heap.size + 1) a4 k4 r4 _ rfl rfl (unhide HO4) a5 c5 r5 _ rfl rfl (unhide ho5).toBs.row (unhide ho5).toBs.nz (by omega) (unhide HJ5).lt ?_
  intro a6 k6 r6 w6 hr6 ho6 hg6 hl6
  have HJ6 := hide ((unhide HJ5).app (unhide HO4) (unhide HL) (unhide HM) (unhide hg6))
  have s6 : w6.cell? ⟨w.heap.size, 2, none⟩ = some (.slice x l.length cx) := by rw [cell_of_row w6 w.heap.size 2 _ _ _ (unhide HJ6).fr]; rfl
  clear hHeld s5
  refine hK.out _ _ s6 (fun hHeld => ?_)
  clear hK K
  try simp only [Act.put, List.setIfInBounds_toArray, List.set_cons_zero, List.set_cons_succ]
  refine wpAnyH_take (i := 8) (oi := ?_) (v := ?_) ?_ (by kernel_rfl) ?_ ?_ ?_ ?_ hHeld ?_
  rotate_left 2
  · (simp only [List.getElem?_toArray, List.getElem?_cons_succ, List.getElem?_cons_zero]) <;> with_reducible rfl
  · kernel_rfl
  · kernel_rfl
  · exact fun _ _ _ h => h
  · exact Or.inl ⟨by rfl, by (intro w hSw; (try dsimp only at hSw); go_simp <;> with_reducible rfl)⟩
  try simp only [Act.put, List.setIfInBounds_toArray, List.set_cons_zero, List.set_cons_succ]
  refine wpAnyH_take (i := 9) (oi := ?_) (v := ?_) ?_ (by kernel_rfl) ?_ ?_ ?_ ?_ hHeld ?_
  rotate_left 2
  · (simp only [List.getElem?_toArray, List.getElem?_cons_succ, List.getElem?_cons_zero]) <;> with_reducible rfl
  · kernel_rfl
  · kernel_rfl
  · exact fun _ _ _ h => h
  · exact Or.inl ⟨by rfl, by (intro w hSw; (try dsimp only at hSw); go_simp <;> with_reducible rfl)⟩
  try simp only [Act.put, List.setIfInBounds_toArray, List.set_cons_zero, List.set_cons_succ]
  refine wpAnyH_done (by kernel_rfl) ?_ _
  clear hHeld s6
  go_wp2
  go_ret2
  exact ⟨a6, k6, r6, rfl, by show _ = _; rw [unhide hr6, unhide hr4, unhide hr5, unhide HR3]; exact unhide HW, (unhide ho6).base (Nat.le_succ _), (unhide HJ6).bel⟩
end Go.Proofs.YtegbcjfceooflaaDoor
end
