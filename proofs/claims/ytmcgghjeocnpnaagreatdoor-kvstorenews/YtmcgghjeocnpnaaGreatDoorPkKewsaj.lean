/-
  disk: an act done to files.
-/
import Derived.Test.YtmcgghjeocnpnaaGreatDoorPkKewsai
import Derived.Deep.RegionHeld3
section
set_option linter.unusedVariables false
namespace Go.Proofs.YtmcgghjeocnpnaaGreatDoor
open Go.RowKit Go.Maps

theorem OwnB.form {w : World} {base : Nat} {a : Option Addr} {cap : Nat} {l : List UInt8} (h : OwnB w base a cap l) : ∃ y, a = ad y := by
  rcases h.cases with ⟨rfl, _, _⟩ | ⟨g, cur, rfl, _⟩
  · exact ⟨none, rfl⟩
  · exact ⟨Option.some g, rfl⟩
/-- Names have tags of their own, and the map's block another one. -/
structure TR (g : Nat → Tg) (tr : Nm → Tg) (bm : Nat) : Prop where
  ne : ∀ m, g bm ≠ tr m
  inj : ∀ m n, tr m = tr n → m = n

/-- What is kept in mind behind a store. -/
structure Stored (g g2 : Nat → Tg) (tr : Nm → Tg) (bm : Nat) (f : Files) (cnt : Nat) (n : Nm) (r : List UInt8) (w w2 w3 : World) (cs : Array Value) : Prop where
  fm : Hid (FM w3 g2 tr bm (upd f n (some r)) (if (f n).isSome then cnt else cnt + 1))
  st : Hid (St w w3 g g2 (fun t => t = g bm ∨ t = tr n))
  cells : ∀ i, w2.cell? ⟨w.heap.size, i, none⟩ = cs[i]?
  cells3 : ∀ i, w3.cell? ⟨w.heap.size, i, none⟩ = cs[i]?
theorem do_store (g : Nat → Tg) (tr : Nm → Tg) (bm : Nat) (f : Files) (cnt : Nat) (n : Nm) (p : Nat) (w w1 w2 : World) (y : Option Nat) (b : List UInt8) (y2 : Option Nat) (c2 : Nat) (r : List UInt8) (cs : Array Value) {cy : Nat} (h : FM w g tr bm f cnt) (ht : TR g tr bm) (hnm : n.length ≤ maxLen) (hc : cnt ≤ 1000000000)
    (hB : Below w.heap.size w w1) (hbox : w1.heap[w.heap.size]? = some (.cells cs 98 (0, 0))) (oy : OwnB w 0 (ad y) cy (fget f n)) (ty : ∀ b, y = some b → g b = tr n) (hr : Hid (r = over (fget f n) p b)) (ho2 : OwnB w2 0 (ad y2) c2 r) (hg2 : w1.grownBy w2 (blk (ad y))) (hloc : Hid (ad y2 = ad y ∨ ∀ k, blk (ad y2) = some k → w1.heap.size ≤ k)) :
    ∃ g2 w3, (Instr.mapUpdate 75 (.map (some bm)) (.string (str n)) (.slice (ad y2) r.length c2)).run Tryz.prog w2 = .ok () w3 ∧ Stored g g2 tr bm f cnt n (over (fget f n) p b) w w2 w3 cs := by
  have hs1 : w.heap.size < w1.heap.size := (Array.getElem?_eq_some_iff.1 hbox).1
  rw [blk_ad] at hg2
  have hylt : ∀ k, y = some k → k < w.heap.size := fun k hk => (oy.lt k (by rw [blk_ad]; exact hk)).2
  have hst : St w w2 g (fun k => if k < w.heap.size then g k else if y2 = some k then tr n else .o) (fun t => t = tr n) := by
    refine ⟨hg2.os.trans hB.os, hg2.tape.trans hB.tape, hg2.output.trans hB.output, Nat.le_trans hB.size hg2.size, fun k hk hs => ?_, fun k hk => by simp [hk]⟩
    refine (hg2.block k (by omega) (fun e => hs (ty k e.symm))).trans (hB.block k hk)
  have hy2 : ∀ b, y2 = some b → (fun k => if k < w.heap.size then g k else if y2 = some k then tr n else .o) b = tr n := by
    intro b hb
    by_cases hlt : b < w.heap.size
    · simp only [hlt, if_true]
      rcases unhide hloc with e | e
      · have : y2 = y := by have := congrArg blk e; rwa [blk_ad, blk_ad] at this
        exact ty b (by rw [← this]; exact hb)
      · have := e b (by rw [blk_ad]; exact hb)
        omega
    · simp [hlt, hb]
  obtain ⟨w3, hup, hfm, hg3⟩ := h.put n hnm hst (ht.ne n) (fun m hm e => hm (ht.inj m n e)) (by unfold maxLen; omega) ho2 hy2
  have hcell : ∀ i, w2.cell? ⟨w.heap.size, i, none⟩ = cs[i]? := fun i => by
    rw [← cell_of_row w1 w.heap.size i cs _ _ hbox]
    exact World.cell?_of_block (w := w1) (hg2.block _ hs1 (fun e => by have := hylt w.heap.size e.symm; omega))
  have hbl := h.lt
  refine ⟨fun k => if k < w.heap.size then g k else if y2 = some k then tr n else .o, w3, hup, ?_, ?_, hcell, fun i => ?_⟩
  · show FM _ _ _ _ _ _
    rw [← unhide hr]; exact hfm
  · show St _ _ _ _ _
    refine (hst.mono (fun t e => .inr e)).trans (St.ofG hg3 (fun k hk => ?_))
    left
    obtain rfl := Option.some.inj hk
    simp [h.lt]
  · rw [← hcell i]
    exact World.cell?_of_block (w := w2) (hg3.block _ (Nat.lt_of_lt_of_le hs1 hg2.size) (fun e => by have := Option.some.inj e; simp only at this; omega))

set_option maxRecDepth 20000 in
set_option maxHeartbeats 4000000 in
theorem do_write (g : Nat → Tg) (tr : Nm → Tg) (bm : Nat) (f : Files) (cnt : Nat) (n : Nm) (p : Nat) (P : Int) (x : Option Addr) (c : Nat) (b : List UInt8) (w : World) (h : FM w g tr bm f cnt) (ht : TR g tr bm) (hn : n.length ≤ 1000) (HP : Hid (P = (p : Int))) (hb : Bs w x c b) (hx : ∀ k, blk x = some k → g k ≠ tr n)
    (hl : (fget f n).length ≤ 1000000000) (hp : p ≤ 1000000000) (hbl : b.length ≤ 1000000000) (hc : cnt ≤ 1000000000) :
    Calls Tryz.prog 43 #[.map (some bm), .agg #[.int .i64 0, .string (str n), .int .i64 P, .slice x b.length c]] w fun e w' => e = .returned (.tuple #[]) ∧ ∃ g', Hid (FM w' g' tr bm (doF f ⟨0, n, p, b⟩) (doN f cnt ⟨0, n, p, b⟩)) ∧ Hid (St w w' g g' (fun t => t = g bm ∨ t = tr n)) := by
  have hnm : n.length ≤ maxLen := by unfold maxLen; omega
  obtain ⟨y, cy, oy, ty, look⟩ := h.at n hnm
  obtain ⟨w0, hw0⟩ : ∃ w0, w0 = w.alloc (.cells #[.int .i64 0, .string (str n), .int .i64 P, .slice x b.length c] 98) := ⟨_, rfl⟩
  have hbox : w0.heap[w.heap.size]? = some (.cells #[.int .i64 0, .string (str n), .int .i64 P, .slice x b.length c] 98 (0, 0)) := by rw [hw0]; exact heap_alloc_new w _
  have hB0 : Below w.heap.size w w0 := by rw [hw0]; exact (Below.refl _ _).alloc (Nat.le_refl _) _
  have hbmlt := h.lt
  have hl1 := (look w0.drew (by show w0.heap[bm]? = _; exact hB0.block bm hbmlt)).1
  have c0 : w0.cell? ⟨w.heap.size, 0, none⟩ = some (.int .i64 0) := by rw [cell_of_row w0 _ 0 _ _ _ hbox]; rfl
  have c1 : w0.cell? ⟨w.heap.size, 1, none⟩ = some (.string (str n)) := by rw [cell_of_row w0 _ 1 _ _ _ hbox]; rfl
  have c2 : w0.cell? ⟨w.heap.size, 2, none⟩ = some (.int .i64 P) := by rw [cell_of_row w0 _ 2 _ _ _ hbox]; rfl
  have c3 : w0.cell? ⟨w.heap.size, 3, none⟩ = some (.slice x b.length c) := by rw [cell_of_row w0 _ 3 _ _ _ hbox]; rfl
  have oy0 : OwnB w0.drew 0 (ad y) cy (fget f n) := oy.below hB0.drew (Nat.le_refl _)
  have hb0 : Bs w0.drew x c b := hb.below hB0.drew (Nat.le_refl _)
  have hne : blk x = none ∨ blk x ≠ blk (ad y) := by
    rw [blk_ad]
    cases hbx : blk x with
    | none => exact .inl rfl
    | some k =>
      right
      intro e
      exact hx k hbx (ty k e.symm)
  have HL := hide look
  have HW := hide hw0
  clear look hw0
  go_enter Tryz.func43, Tryz.ntmps43
  go_wp2_with fail
  rw [← unhide HW]
  have hsz0 := hB0.size
  have hS0 : w0.drew.cell? ⟨w.heap.size, 1, none⟩ = some (.string (str n)) ∧ w0.drew.cell? ⟨w.heap.size, 2, none⟩ = some (.int .i64 P) ∧ w0.drew.cell? ⟨w.heap.size, 3, none⟩ = some (.slice x b.length c) := ⟨c1, c2, c3⟩
  have HB := hide hbox
  clear c0 c1 c2 c3 hbox
  go_region_held3 (fun w' => w'.cell? ⟨w.heap.size, 1, none⟩ = some (.string (str n)) ∧ w'.cell? ⟨w.heap.size, 2, none⟩ = some (.int .i64 P) ∧ w'.cell? ⟨w.heap.size, 3, none⟩ = some (.slice x b.length c)) (first | exact hS0 | exact ⟨(HR.cells 1).trans rfl, (HR.cells 2).trans rfl, (HR.cells 3).trans rfl⟩ | exact ⟨(HR.cells3 1).trans rfl, (HR.cells3 2).trans rfl, (HR.cells3 3).trans rfl⟩) ((go_at_call 72; refine (over_any 0 (ad y) cy (fget f n) p P x c b _ HP oy0 hb0 hne hl hp hbl (Nat.zero_le _)).mono ?_; rintro e w2 ⟨a2, c2, r, rfl, hr, ho2, hg2, hloc⟩; obtain ⟨y2, rfl⟩ := ho2.form; obtain ⟨g2, w3, hup, HR⟩ := do_store g tr bm f cnt n p w w0.drew w2 y b y2 c2 r _ h ht hnm hc hB0.drew (unhide HB) oy ty hr ho2 hg2 hloc))
  all_goals (go_wp2; go_end0; exact ⟨rfl, g2, HR.fm, HR.st⟩)

theorem wp_del_run (w : World) {ops : Array Oper} {rest : List Oper} {o : Oper} {a : Act} {Q : Exit → Act → World → Prop} (hg : o.guard = none) (m x : Operand) (t k : TypeId) (hop : o.op = Op.call { callee := Callee.builtin Builtin.delete, args := #[m, x], argTypes := #[t, k] })
    (vm vx : Value) (hm : a.eval m = vm) (hx : a.eval x = vx) (w' : World) (hr : (Builtin.delete_ #[t, k] o.type #[vm, vx]).run Tryz.prog w = .ok (.tuple #[]) w') (hK : wpList Tryz.prog ops Q rest (a.put o.dst (.tuple #[])) w') : wpList Tryz.prog ops Q (o :: rest) a w := by
  refine wpList_plain hg fun K' hK' => ?_
  unfold Oper.wp
  simp [execOp, hop, resolve, invoke, builtin, hm, hx, hr, Result.andThen]
  exact hK' _ _ hK

set_option maxRecDepth 20000 in
set_option maxHeartbeats 4000000 in
theorem do_cut (g : Nat → Tg) (tr : Nm → Tg) (bm : Nat) (f : Files) (cnt : Nat) (n : Nm) (p : Nat) (P : Int) (x : Option Addr) (c : Nat) (b : List UInt8) (w : World) (h : FM w g tr bm f cnt) (ht : TR g tr bm) (hn : n.length ≤ 1000) (HP : Hid (P = (p : Int)))
    (hl : (fget f n).length ≤ 1000000000) (hp : p ≤ 1000000000) (hc : cnt ≤ 1000000000) :
    Calls Tryz.prog 43 #[.map (some bm), .agg #[.int .i64 1, .string (str n), .int .i64 P, .slice x b.length c]] w fun e w' => e = .returned (.tuple #[]) ∧ ∃ g', Hid (FM w' g' tr bm (doF f ⟨1, n, p, b⟩) (doN f cnt ⟨1, n, p, b⟩)) ∧ Hid (St w w' g g' (fun t => t = g bm ∨ t = tr n)) := by
  have hnm : n.length ≤ maxLen := by unfold maxLen; omega
  obtain ⟨y, cy, oy, ty, look⟩ := h.at n hnm
  have hP0 : 0 ≤ P := by rw [unhide HP]; omega
  have hP1 : P ≤ 1000000000 := by rw [unhide HP]; omega
  obtain ⟨w0, hw0⟩ : ∃ w0, w0 = w.alloc (.cells #[.int .i64 1, .string (str n), .int .i64 P, .slice x b.length c] 98) := ⟨_, rfl⟩
  have hbox : w0.heap[w.heap.size]? = some (.cells #[.int .i64 1, .string (str n), .int .i64 P, .slice x b.length c] 98 (0, 0)) := by rw [hw0]; exact heap_alloc_new w _
  have hB0 : Below w.heap.size w w0 := by rw [hw0]; exact (Below.refl _ _).alloc (Nat.le_refl _) _
  have hbmlt := h.lt
  have hl1 := (look w0 (hB0.block bm hbmlt)).1
  have c0 : w0.cell? ⟨w.heap.size, 0, none⟩ = some (.int .i64 1) := by rw [cell_of_row w0 _ 0 _ _ _ hbox]; rfl
  have c1 : w0.cell? ⟨w.heap.size, 1, none⟩ = some (.string (str n)) := by rw [cell_of_row w0 _ 1 _ _ _ hbox]; rfl
  have c2 : w0.cell? ⟨w.heap.size, 2, none⟩ = some (.int .i64 P) := by rw [cell_of_row w0 _ 2 _ _ _ hbox]; rfl
  have HL := hide look
  by_cases hlt : p < (fget f n).length
  · have hlt2 : P < ((fget f n).length : Int) := by rw [unhide HP]; omega
    have oy1 := (oy.take p (by omega)).below hB0.drew (Nat.le_refl _)
    have hcut := own_cut oy p (by omega) w0.drew
    rw [← unhide HP] at hcut
    obtain ⟨w3, hup, hfm, hg3⟩ := h.put n hnm (St.ofBelow g (fun t => t = tr n) hB0.drew) (ht.ne n) (fun m hm e => hm (ht.inj m n e)) (by unfold maxLen; omega) oy1 ty
    rw [show ((fget f n).take p).length = p by simp; omega] at hup
    have HF : Hid (FM w3 g tr bm (doF f ⟨1, n, p, b⟩) (doN f cnt ⟨1, n, p, b⟩)) := by
      show FM _ _ _ _ _ _
      have e1 : doF f ⟨1, n, p, b⟩ = upd f n (some ((fget f n).take p)) := by simp [doF, hlt]
      have e2 : doN f cnt ⟨1, n, p, b⟩ = cnt := by simp [doN]
      have e3 : (f n).isSome = true := by
        cases hf : f n with
        | none => simp [fget, hf] at hlt
        | some v => rfl
      rw [e1, e2]
      rw [e3] at hfm
      exact hfm
    have HS : Hid (St w w3 g g (fun t => t = g bm ∨ t = tr n)) := by
      show St _ _ _ _ _
      exact (St.ofBelow g _ hB0.drew).trans (St.ofG hg3 (fun k hk => .inl (by rw [Option.some.inj hk])))
    clear look hlt hbox oy1 hfm hg3
    subst hw0
    go_enter Tryz.func43, Tryz.ntmps43
    go_wp2_with fail
    go_region
    all_goals (go_wp2; go_end0; exact ⟨rfl, g, HF, HS⟩)
  · have hlt2 : ((fget f n).length : Int) ≤ P := by rw [unhide HP]; omega
    have HF : Hid (FM w0 g tr bm (doF f ⟨1, n, p, b⟩) (doN f cnt ⟨1, n, p, b⟩)) := by
      show FM _ _ _ _ _ _
      have e1 : doF f ⟨1, n, p, b⟩ = f := by simp [doF]; intro h'; omega
      have e2 : doN f cnt ⟨1, n, p, b⟩ = cnt := by simp [doN]
      rw [e1, e2]
      exact h.st (St.ofBelow g (fun _ => False) hB0) (fun e => e) (fun _ e => e)
    have HS : Hid (St w w0 g g (fun t => t = g bm ∨ t = tr n)) := St.ofBelow g _ hB0
    clear look hlt hbox
    subst hw0
    go_enter Tryz.func43, Tryz.ntmps43
    go_wp2
    go_end0
    exact ⟨rfl, g, HF, HS⟩

set_option maxRecDepth 20000 in
set_option maxHeartbeats 4000000 in
theorem do_drop (g : Nat → Tg) (tr : Nm → Tg) (bm : Nat) (f : Files) (cnt : Nat) (n : Nm) (p : Nat) (P : Int) (x : Option Addr) (c : Nat) (b : List UInt8) (w : World) (h : FM w g tr bm f cnt) (hn : n.length ≤ 1000) :
    Calls Tryz.prog 43 #[.map (some bm), .agg #[.int .i64 2, .string (str n), .int .i64 P, .slice x b.length c]] w fun e w' => e = .returned (.tuple #[]) ∧ ∃ g', Hid (FM w' g' tr bm (doF f ⟨2, n, p, b⟩) (doN f cnt ⟨2, n, p, b⟩)) ∧ Hid (St w w' g g' (fun t => t = g bm ∨ t = tr n)) := by
  have hnm : n.length ≤ maxLen := by unfold maxLen; omega
  obtain ⟨w0, hw0⟩ : ∃ w0, w0 = w.alloc (.cells #[.int .i64 2, .string (str n), .int .i64 P, .slice x b.length c] 98) := ⟨_, rfl⟩
  have hbox : w0.heap[w.heap.size]? = some (.cells #[.int .i64 2, .string (str n), .int .i64 P, .slice x b.length c] 98 (0, 0)) := by rw [hw0]; exact heap_alloc_new w _
  have hB0 : Below w.heap.size w w0 := by rw [hw0]; exact (Below.refl _ _).alloc (Nat.le_refl _) _
  have h0 : FM w0 g tr bm f cnt := h.st (St.ofBelow g (fun _ => False) hB0) (fun e => e) (fun _ e => e)
  have c1 : w0.cell? ⟨w.heap.size, 1, none⟩ = some (.string (str n)) := by rw [cell_of_row w0 _ 1 _ _ _ hbox]; rfl
  obtain ⟨w3, hrun, hfm, hg3⟩ := h0.del n hnm 0
  have HF : Hid (FM w3 g tr bm (doF f ⟨2, n, p, b⟩) (doN f cnt ⟨2, n, p, b⟩)) := by
    show FM _ _ _ _ _ _
    have e1 : doF f ⟨2, n, p, b⟩ = upd f n none := by simp [doF]
    have e2 : doN f cnt ⟨2, n, p, b⟩ = if (f n).isSome then cnt - 1 else cnt := by simp [doN]
    rw [e1, e2]
    exact hfm
  have HS : Hid (St w w3 g g (fun t => t = g bm ∨ t = tr n)) := by
    show St _ _ _ _ _
    exact (St.ofBelow g _ hB0).trans (St.ofG hg3 (fun k hk => .inl (by rw [Option.some.inj hk])))
  clear hbox hfm hg3 h0
  subst hw0
  go_enter Tryz.func43, Tryz.ntmps43
  go_wp2_with (at_delete; refine wp_del_run _ rfl _ _ _ _ rfl _ _ rfl rfl _ hrun ?_)
  go_end0
  exact ⟨rfl, g, HF, HS⟩
#print axioms do_write
end Go.Proofs.YtmcgghjeocnpnaaGreatDoor
end
