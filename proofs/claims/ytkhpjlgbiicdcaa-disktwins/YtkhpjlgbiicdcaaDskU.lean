/-
  disk: Clone.
-/
import Derived.Test.YtkhpjlgbiicdcaaDskT
set_option linter.unusedVariables false
namespace Go.Proofs.Ytkhpjlgbiicdcaa
open Go.RowKit Go.Maps

/-- The twin's block. -/
def Twn (w : World) (T : Nat) (a0 a1 a2 a3 a4 a5 : Value) : Prop := w.heap[T]? = some (.cells #[a0, a1, a2, a3, a4, a5] 58 (0, 0))
theorem Twn.cell {w : World} {T : Nat} {a0 a1 a2 a3 a4 a5 : Value} (h : Twn w T a0 a1 a2 a3 a4 a5) (i : Nat) : w.cell? ⟨T, i, none⟩ = #[a0, a1, a2, a3, a4, a5][i]? := cell_of_row w T i _ _ _ h
theorem Twn.fr {w : World} {T : Nat} {a0 a1 a2 a3 a4 a5 : Value} (h : Twn w T a0 a1 a2 a3 a4 a5) (i : Nat) : w.frozen? ⟨T, i, none⟩ = false := frozen_of_row w T i _ _ h
theorem Twn.below {w w' : World} {T : Nat} {a0 a1 a2 a3 a4 a5 : Value} (h : Twn w T a0 a1 a2 a3 a4 a5) (hb : Below w.heap.size w w') : Twn w' T a0 a1 a2 a3 a4 a5 := by
  unfold Twn at *
  rw [hb.block T (Array.getElem?_eq_some_iff.1 h).1]; exact h
theorem Twn.lt {w : World} {T : Nat} {a0 a1 a2 a3 a4 a5 : Value} (h : Twn w T a0 a1 a2 a3 a4 a5) : T < w.heap.size := (Array.getElem?_eq_some_iff.1 h).1
theorem Twn.set1 {w : World} {T : Nat} {a0 a1 a2 a3 a4 a5 : Value} (h : Twn w T a0 a1 a2 a3 a4 a5) (v : Value) : Twn (w.setCell ⟨T, 1, none⟩ v) T a0 v a2 a3 a4 a5 := by
  unfold Twn at *; simp only [World.setCell, Array.getElem?_modify]; rw [if_pos trivial, h]; rfl
theorem Twn.set2 {w : World} {T : Nat} {a0 a1 a2 a3 a4 a5 : Value} (h : Twn w T a0 a1 a2 a3 a4 a5) (v : Value) : Twn (w.setCell ⟨T, 2, none⟩ v) T a0 a1 v a3 a4 a5 := by
  unfold Twn at *; simp only [World.setCell, Array.getElem?_modify]; rw [if_pos trivial, h]; rfl
theorem Twn.set3 {w : World} {T : Nat} {a0 a1 a2 a3 a4 a5 : Value} (h : Twn w T a0 a1 a2 a3 a4 a5) (v : Value) : Twn (w.setCell ⟨T, 3, none⟩ v) T a0 a1 a2 v a4 a5 := by
  unfold Twn at *; simp only [World.setCell, Array.getElem?_modify]; rw [if_pos trivial, h]; rfl
theorem Twn.set4' {w : World} {T : Nat} {a0 a1 a2 a3 a4 a5 : Value} (h : Twn w T a0 a1 a2 a3 a4 a5) (v : Value) : Twn (w.setCell ⟨T, 4, none⟩ v) T a0 a1 a2 a3 v a5 := by
  unfold Twn at *; simp only [World.setCell, Array.getElem?_modify]; rw [if_pos trivial, h]; rfl
theorem St.set {w : World} {g : Nat → Tg} {t : Tg} (T : Nat) (k : Nat) (v : Value) (hT : g T = t) : St w (w.setCell ⟨T, k, none⟩ v) g g (fun s => s = t) := St.ofG (grownBy_setCell w ⟨T, k, none⟩ v) (fun j hj => by rw [← Option.some.inj hj]; exact hT)

def Md.cut0 (M : Md) (k : Nat) : Md := { M with pend := M.pend.take k }

/-- An act's twin stands behind the twin's pending ones. -/
theorem clone_add {w w2 w3 : World} {g : Nat → Tg} {i j : Nat} {J J' : DJ} {M : Md} {k : Nat} {a : Ac} {y : Option Addr} {cy G cap : Nat} (hij : i ≠ j) (hd : DS w g i J M) (hd' : DS w g j J' (M.cut0 k)) (hk : M.pend[k]? = some a)
    (hb : Below w.heap.size w w2) (hy : OwnB w2 w.heap.size y cy a.b) {l : List At} (hl1 : l.map (·.1) = M.pend.take k) (hl2 : OwnA w J'.P J'.pc l) (hl3 : ∀ t ∈ l, Bs w t.2.1 t.2.2 t.1.b ∧ ∀ k, blk t.2.1 = some k → k < w.heap.size ∧ g k = .a j)
    (ho : OwnA w3 (some ⟨G, 0, none⟩) cap (l ++ [(a, y, cy)])) (hg : w2.grownBy w3 (blk J'.P)) (hloc : Hid (blk J'.P = some G ∨ G = w2.heap.size)) :
    (w3.cell? ⟨J'.D, 3, none⟩ = some (.slice J'.P l.length J'.pc) ∧ w3.frozen? ⟨J'.D, 3, none⟩ = false) ∧ ∃ g', DS (w3.setCell ⟨J'.D, 3, none⟩ (.slice (some ⟨G, 0, none⟩) (l.length + 1) cap)) g' i J M ∧ DS (w3.setCell ⟨J'.D, 3, none⟩ (.slice (some ⟨G, 0, none⟩) (l.length + 1) cap)) g' j { J' with P := some ⟨G, 0, none⟩, pc := cap } (M.cut0 (k + 1)) ∧ ∀ b, b < w.heap.size → g' b = g b := by
  -- the world with the new row
  have x2 : ∀ S, St w w2 g (fun b => if b < w.heap.size then g b else if blk y = some b then .a j else .o) S := fun S => ⟨hb.os, hb.tape, hb.output, hb.size, fun b hb' _ => hb.block b hb', fun b hb' => by simp [hb']⟩
  have d2 := hd.st (x2 (fun _ => False)) (fun _ _ e => e)
  have d2' := hd'.st (x2 (fun _ => False)) (fun _ _ e => e)
  have hty : Bs w2 y cy a.b ∧ ∀ b, blk y = some b → b < w2.heap.size ∧ (fun b => if b < w.heap.size then g b else if blk y = some b then Tg.a j else .o) b = .a j := by
    refine ⟨hy.toBs, fun b hb' => ⟨(hy.lt b hb').2, ?_⟩⟩
    have := (hy.lt b hb').1
    show (if b < w.heap.size then g b else if blk y = some b then Tg.a j else .o) = .a j
    rw [if_neg (by omega), if_pos hb']
  have hl2' := hl2.below hb
  have hl3' : ∀ t ∈ l, Bs w2 t.2.1 t.2.2 t.1.b ∧ ∀ b, blk t.2.1 = some b → b < w2.heap.size ∧ (fun b => if b < w.heap.size then g b else if blk y = some b then Tg.a j else .o) b = .a j := by
    intro t ht
    have := hl3 t ht
    refine ⟨this.1.below hb (Nat.le_refl _), fun b hb' => ⟨Nat.lt_of_lt_of_le (this.2 b hb').1 hb.size, ?_⟩⟩
    show (if b < w.heap.size then g b else if blk y = some b then Tg.a j else .o) = .a j
    rw [if_pos (this.2 b hb').1]; exact (this.2 b hb').2
  have hDne : some J'.D ≠ blk J'.P := fun e => by have := d2'.gP J'.D e.symm; rw [d2'.gD] at this; cases this
  have hD1 : w3.heap[J'.D]? = some (.cells (dcells J' (M.cut0 k)) 58 (0, 0)) := by rw [hg.block J'.D d2'.ltD hDne]; exact d2'.dsk
  have hll : l.length = (M.cut0 k).pend.length := by have := congrArg List.length hl1; simpa [Md.cut0] using this
  obtain ⟨d, x⟩ := d2'.addPend (t := (a, y, cy)) hl1 hl2' hl3' hty ho hg ((unhide hloc).imp id (fun e => Nat.le_of_eq e.symm))
  refine ⟨⟨by rw [cell_of_row w3 J'.D 3 _ _ _ hD1, hll]; rfl, frozen_of_row w3 J'.D 3 _ _ hD1⟩, _, d2.st x ?_, ?_, fun b hb' => ?_⟩
  · intro t ht hs
    rcases hs with e | e
    · rw [e] at ht; exact hij (Eq.symm ht)
    · rw [e] at ht; exact hij (Eq.symm ht)
  · have e : M.cut0 (k + 1) = { M.cut0 k with pend := (M.cut0 k).pend ++ [a] } := by
      unfold Md.cut0
      rw [take_snoc hk]
    rw [e]
    exact d
  · have : b < w2.heap.size := Nat.lt_of_lt_of_le hb' hb.size
    show (if b < w2.heap.size then (if b < w.heap.size then g b else if blk y = some b then Tg.a j else .o) else if b = G then Tg.p j else .o) = g b
    rw [if_pos this, if_pos hb']

set_option maxRecDepth 20000 in
set_option maxHeartbeats 4000000 in
theorem clone_any (g : Nat → Tg) (i j : Nat) (J : DJ) (M : Md) (N : Nat) (w : World) (hij : i ≠ j) (hj : ∀ b, b < w.heap.size → ¬ (g b).of j) (h : DS w g i J M) (ok : MOk J M N) (hN : N ≤ 1400) :
    Calls Try.prog 10 #[.pointer (some ⟨J.D, 0, none⟩)] w fun e w' => ∃ g' J', e = .returned (.pointer (some ⟨J'.D, 0, none⟩)) ∧ DS w' g' i J M ∧ DS w' g' j J' M ∧ MOk J' M N ∧ Below w.heap.size w w' ∧ (∀ b, b < w.heap.size → g' b = g b) ∧ w.heap.size ≤ J'.D := by
  have c0 := h.c0
  have c1 := h.c1
  have c2 := h.c2
  have c3 := h.c3
  have c4 := h.c4
  have c5 := h.c5
  have hpl : M.pend.length ≤ 1400 := by have := ok.ln; omega
  have hsl : ∀ n, (fget M.seen n).length ≤ 100000000 := fun n => by have := ok.sl n; omega
  have hll : ∀ n, (fget M.last n).length ≤ 100000000 := fun n => by have := ok.ll n; omega
  have hsN : M.seenN ≤ 1000000 := by have := ok.sn; omega
  have hlN : M.lastN ≤ 1000000 := by have := ok.ln; omega
  have HSL := hide hsl
  have HLL := hide hll
  clear hsl hll
  go_enter Try.func10, Try.ntmps10
  go_wp2_with fail
  refine (unmade_not J.D J.S w c2).mono ?_
  rintro e w' ⟨rfl, rfl⟩
  have dA := fun o => (h.below ((Below.refl w'.heap.size w').alloc (Nat.le_refl _) o)).c1
  obtain ⟨T, hT⟩ : ∃ T, T = w'.heap.size := ⟨_, rfl⟩
  obtain ⟨w1, hw1⟩ : ∃ w1, w1 = w'.alloc (.cells #[.int .i64 M.room, .map (some J.L), .map (some J.S), .slice J.P M.pend.length J.pc, .map (some J.K), .int .i64 M.used] 58) := ⟨_, rfl⟩
  have tw1 : Twn w1 T (.int .i64 M.room) (.map (some J.L)) (.map (some J.S)) (.slice J.P M.pend.length J.pc) (.map (some J.K)) (.int .i64 M.used) := by unfold Twn; rw [hw1, hT]; exact heap_alloc_new w' _
  have hb1 : Below w'.heap.size w' w1 := by rw [hw1]; exact (Below.refl _ _).alloc (Nat.le_refl _) _
  obtain ⟨g1, hg1⟩ : ∃ g1 : Nat → Tg, g1 = (fun b => if b < w'.heap.size then g b else if b = T then .d j else .o) := ⟨_, rfl⟩
  have x1 : ∀ S, St w' w1 g g1 S := fun S => ⟨hb1.os, hb1.tape, hb1.output, hb1.size, fun b hb _ => hb1.block b hb, fun b hb => by rw [hg1]; simp [hb]⟩
  have d1 := h.st (x1 (fun _ => False)) (fun _ _ e => e)
  have gT1 : g1 T = .d j := by rw [hg1, hT]; simp
  have HX1 := hide (x1 (fun _ => False))
  have HT := hide hT
  have HW1 := hide hw1
  have HTW1 := hide tw1
  have hTl1 := tw1.lt
  clear hT hw1 hb1 hg1 x1 tw1
  go_wp2_with fail
  rw [← unhide HW1, ← unhide HT]
  clear dA c0 c1 c2 c3 c4 c5
  refine (fclone_any g1 (.lr i) (.lr j) (.l j) J.L M.last M.lastN w1 d1.fl (by intro e; cases e) (by intro n e; cases e) (by intro n e; cases e) (by intro m n e; cases e; rfl) (unhide HLL) hlN).mono ?_
  rintro e w2 ⟨rfl, hb2, g2, fl2, ag2, tl2⟩
  -- behind the store
  have tw2 := (unhide HTW1).below hb2
  have q1 := (tw2.cell 1).trans (show _ = some (.map (some J.L)) from rfl)
  have f1 := tw2.fr 1
  have x2 : St w1 w2 g1 g2 (fun _ => False) := ⟨hb2.os, hb2.tape, hb2.output, hb2.size, fun b hb _ => hb2.block b hb, ag2⟩
  have gT2 : g2 T = .d j := (ag2 T hTl1).trans gT1
  obtain ⟨B1, hB1⟩ : ∃ B1, B1 = w1.heap.size := ⟨_, rfl⟩
  rw [← hB1] at fl2 tl2
  obtain ⟨u2, hu2⟩ : ∃ u2, u2 = w2.setCell ⟨T, 1, none⟩ (.map (some B1)) := ⟨_, rfl⟩
  have xs2 : St w2 u2 g2 g2 (fun s => s = .d j) := by rw [hu2]; exact St.set T 1 _ gT2
  have tw3 : Twn u2 T (.int .i64 M.room) (.map (some B1)) (.map (some J.S)) (.slice J.P M.pend.length J.pc) (.map (some J.K)) (.int .i64 M.used) := by rw [hu2]; exact tw2.set1 _
  have d2 := (d1.st x2 (fun _ _ e => e)).st xs2 (fun t ht e => by rw [e] at ht; exact hij (Eq.symm ht))
  have fl3 := fl2.st xs2 (by rw [tl2]; intro e; cases e) (fun n e => by cases e)
  have p2 : (w2.setCell ⟨T, 1, none⟩ (.map (some B1))).cell? ⟨J.D, 2, none⟩ = some (.map (some J.S)) := by rw [← hu2]; exact d2.c2
  have HU2 := hide hu2
  have HX2 := hide (((unhide HX1).trans x2).mono (T := fun s => s = .d j) (fun t e => e.elim) |>.trans xs2)
  have HFL := hide fl3
  have HTL := hide tl2
  have HTW3 := hide tw3
  have hTl2 := tw3.lt
  rw [← hB1]
  have HB1 : Hid (B1 < u2.heap.size) := fl3.lt
  clear hu2 tw2 tw3 x2 xs2 fl2 fl3 hb2 ag2 tl2 hB1 d1 gT1 HTW1 HX1 HW1
  go_wp2_with fail
  rw [← unhide HU2]
  clear q1 f1 p2 HU2
  refine (fclone_any g2 (.sr i) (.sr j) (.s j) J.S M.seen M.seenN u2 d2.fs (by intro e; cases e) (by intro n e; cases e) (by intro n e; cases e) (by intro m n e; cases e; rfl) (unhide HSL) hsN).mono ?_
  rintro e w3 ⟨rfl, hb3, g3, fs3, ag3, ts3⟩
  have tw4 := (unhide HTW3).below hb3
  have q2 := (tw4.cell 2).trans (show _ = some (.map (some J.S)) from rfl)
  have f2 := tw4.fr 2
  have x3 : St u2 w3 g2 g3 (fun _ => False) := ⟨hb3.os, hb3.tape, hb3.output, hb3.size, fun b hb _ => hb3.block b hb, ag3⟩
  have gT3 : g3 T = .d j := (ag3 T hTl2).trans gT2
  obtain ⟨B2, hB2⟩ : ∃ B2, B2 = u2.heap.size := ⟨_, rfl⟩
  rw [← hB2] at fs3 ts3
  obtain ⟨u3, hu3⟩ : ∃ u3, u3 = w3.setCell ⟨T, 2, none⟩ (.map (some B2)) := ⟨_, rfl⟩
  have xs3 : St w3 u3 g3 g3 (fun s => s = .d j) := by rw [hu3]; exact St.set T 2 _ gT3
  have tw5 : Twn u3 T (.int .i64 M.room) (.map (some B1)) (.map (some B2)) (.slice J.P M.pend.length J.pc) (.map (some J.K)) (.int .i64 M.used) := by rw [hu3]; exact tw4.set2 _
  have d3 := (d2.st x3 (fun _ _ e => e)).st xs3 (fun t ht e => by rw [e] at ht; exact hij (Eq.symm ht))
  have tl3 : g3 B1 = .l j := (ag3 B1 (unhide HB1)).trans (unhide HTL)
  have fl4 := ((unhide HFL).st x3 (fun e => e) (fun _ e => e)).st xs3 (by rw [tl3]; intro e; cases e) (fun n e => by cases e)
  have fs4 := fs3.st xs3 (by rw [ts3]; intro e; cases e) (fun n e => by cases e)
  have p4 : (w3.setCell ⟨T, 2, none⟩ (.map (some B2))).cell? ⟨J.D, 4, none⟩ = some (.map (some J.K)) := by rw [← hu3]; exact d3.c4
  have HU3 := hide hu3
  have HX3 := hide (((unhide HX2).trans (x3.mono (fun t e => e.elim))).trans xs3)
  have HFL4 := hide fl4
  have HFS4 := hide fs4
  have HTL3 := hide tl3
  have HTS3 := hide ts3
  have HTW5 := hide tw5
  have hTl3 := tw5.lt
  rw [← hB2]
  clear hu3 tw4 tw5 x3 xs3 fs3 hb3 ag3 hB2 d2 gT2 HTW3 HX2 HFL HTL HB1 fl4 fs4 tl3 ts3
  go_wp2_with fail
  rw [← unhide HU3]
  clear q2 f2 p4 HU3
  refine (mclone_any J.K M.peaks J.kc u3 d3.pk).mono ?_
  rintro e w4 ⟨rfl, pk4, hb4, hs4⟩
  obtain ⟨B3, hB3⟩ : ∃ B3, B3 = u3.heap.size := ⟨_, rfl⟩
  rw [← hB3] at pk4 ⊢
  have tw6 := (unhide HTW5).below hb4
  obtain ⟨g4, hg4⟩ : ∃ g4 : Nat → Tg, g4 = (fun b => if b < u3.heap.size then g3 b else if b = B3 then .k j else .o) := ⟨_, rfl⟩
  have x4 : St u3 w4 g3 g4 (fun _ => False) := ⟨hb4.os, hb4.tape, hb4.output, hb4.size, fun b hb _ => hb4.block b hb, fun b hb => by rw [hg4]; simp [hb]⟩
  have gB3 : g4 B3 = .k j := by rw [hg4, hB3]; simp
  have gT4 : g4 T = .d j := (x4.ag T hTl3).trans gT3
  have r4 := (tw6.cell 4).trans (show _ = some (.map (some J.K)) from rfl)
  have r3 := (tw6.cell 3).trans (show _ = some (.slice J.P M.pend.length J.pc) from rfl)
  have f4 := tw6.fr 4
  have f3 := tw6.fr 3
  obtain ⟨u5, hu5⟩ : ∃ u5, u5 = (w4.setCell ⟨T, 4, none⟩ (.map (some B3))).setCell ⟨T, 3, none⟩ (.slice none 0 0) := ⟨_, rfl⟩
  have xs5 : St w4 u5 g4 g4 (fun s => s = .d j) := by rw [hu5]; exact (St.set T 4 _ gT4).trans (St.set T 3 _ gT4)
  have tw7 : Twn u5 T (.int .i64 M.room) (.map (some B1)) (.map (some B2)) (.slice none 0 0) (.map (some B3)) (.int .i64 M.used) := by rw [hu5]; exact (tw6.set4' _).set3 _
  have d5 := (d3.st x4 (fun _ _ e => e)).st xs5 (fun t ht e => by rw [e] at ht; exact hij (Eq.symm ht))
  have fl5 := ((unhide HFL4).st x4 (fun e => e) (fun _ e => e))
  have fs5 := ((unhide HFS4).st x4 (fun e => e) (fun _ e => e))
  have gB1 : g4 B1 = .l j := (x4.ag B1 (unhide HFL4).lt).trans (unhide HTL3)
  have gB2 : g4 B2 = .s j := (x4.ag B2 (unhide HFS4).lt).trans (unhide HTS3)
  have dj : DS u5 g4 j { D := T, L := B1, S := B2, K := B3, P := none, pc := 0, kc := J.kc } (M.cut0 0) :=
    ⟨tw7, gT4, gB1, gB2, gB3, (fun k hk => by cases hk), fl5.st xs5 (by rw [gB1]; intro e; cases e) (fun n e => by cases e), fs5.st xs5 (by rw [gB2]; intro e; cases e) (fun n e => by cases e), pk4.st xs5 (by rw [gB3]; intro e; cases e), [], by simp [Md.cut0], OwnA.nil _, (fun t ht => by simp at ht)⟩
  have hX5 : St w' u5 g g4 (fun s => s = .d j) := ((unhide HX3).trans (x4.mono (fun t e => e.elim))).trans xs5
  have p3 : ((w4.setCell ⟨T, 4, none⟩ (.map (some B3))).setCell ⟨T, 3, none⟩ (.slice none 0 0)).cell? ⟨J.D, 3, none⟩ = some (.slice J.P M.pend.length J.pc) := by rw [← hu5]; exact d5.c3
  have hBX : Below w'.heap.size w' u5 := by
    exact ⟨hX5.os, hX5.tape, hX5.output, hX5.size, fun b hb => hX5.block b hb (fun e => hj b hb (by rw [e]; rfl))⟩
  have HBX := hide hBX
  have HAG := hide hX5.ag
  have HD5 := hide d5
  have HDJ := hide dj
  have HU5 := hide hu5
  clear hu5 tw6 tw7 x4 xs5 fl5 fs5 hb4 hB3 hg4 d3 d5 dj hX5 hBX pk4
  go_wp2
  rw [← unhide HU5]
  clear r4 r3 f4 f3 p3 HU5 gT3 HTW5 HX3 HFL4 HFS4 HTL3 HTS3
  go_loopw [35] (fun v wr => ∃ (k : Nat) (gk : Nat → Tg) (P' : Option Addr) (pc' : Nat), k ≤ M.pend.length ∧ v = .int .i64 (k : Int) ∧ Hid (DS wr gk i J M) ∧ Hid (DS wr gk j { D := T, L := B1, S := B2, K := B3, P := P', pc := pc', kc := J.kc } (M.cut0 k)) ∧ Hid (Below w'.heap.size w' wr) ∧ Hid (∀ b, b < w'.heap.size → gk b = g b)) (fun v _ => M.pend.length - (intOf v).toNat)
  case atStart => exact ⟨0, g4, none, 0, Nat.zero_le _, rfl, unhide HD5, unhide HDJ, unhide HBX, unhide HAG⟩
  case round =>
    obtain ⟨k, gk, P', pc', hk, rfl, HD, HJ, HB, HG⟩ := hrel
    by_cases hlt : k < M.pend.length
    · have hlt2 : (k : Int) < (M.pend.length : Int) := by omega
      obtain ⟨l, hl1, hlo, hl3⟩ := (unhide HD).pd
      obtain ⟨t, ht⟩ : ∃ t, l[k]? = some t := by
        have : k < l.length := by have := congrArg List.length hl1; simp at this; omega
        exact ⟨_, List.getElem?_eq_getElem this⟩
      obtain ⟨G, hG, a0, a1, a2, a3⟩ := hlo.at ht
      have HTk : Hid (M.pend[k]? = some t.1) := by show _ = _; rw [← hl1, List.getElem?_map, ht]; rfl
      have HT3 := hide (hl3 t (List.mem_of_getElem? ht))
      have c3' : Hid (J.P = some ⟨G, 0, none⟩) := hG
      clear hl1 hlo hl3 ht
      obtain ⟨u, hu⟩ : ∃ u, u = wr.alloc (.cells #[.int .i64 (t.1.k : Int), .string (str t.1.n), .int .i64 (t.1.p : Int), .slice t.2.1 t.1.b.length t.2.2] 63) := ⟨_, rfl⟩
      have hBu : Below wr.heap.size wr u.drew := by rw [hu]; exact ((Below.refl _ _).alloc (Nat.le_refl _) _).drew
      have hbx : Box u wr.heap.size (.int .i64 (t.1.k : Int)) (.string (str t.1.n)) (.int .i64 (t.1.p : Int)) (.slice t.2.1 t.1.b.length t.2.2) := by unfold Box; rw [hu]; exact heap_alloc_new wr _
      obtain ⟨b0, b1, b2, b3⟩ := hbx.cells
      have HDi := hide ((unhide HD).below hBu)
      have HDj := hide ((unhide HJ).below hBu)
      have e3 : u.cell? ⟨T, 3, none⟩ = some (.slice P' (M.cut0 k).pend.length pc') := (unhide HDj).c3
      have hbt : Bs u.drew t.2.1 t.2.2 t.1.b := (unhide HT3).1.below hBu (Nat.le_refl _)
      obtain ⟨l1, hl1, hlo1, hl31⟩ := (unhide HDj).pd
      simp only at hlo1
      have HLn : Hid ((M.cut0 k).pend.length = l1.length) := by show _ = _; rw [← hl1]; simp
      have hll1 : l1.length ≤ 1000000 := by
        have := unhide HLn
        have h2 : (M.cut0 k).pend.length ≤ M.pend.length := by unfold Md.cut0; simp; omega
        omega
      obtain ⟨hk2, hn24, hpb⟩ := ok.pe t.1 (List.mem_of_getElem? (unhide HTk))
      have hnn : t.1.n.length ≤ 1000 := by omega
      have hbl : t.1.b.length ≤ 100000000 := by omega
      have HL1 := hide hl1
      have HLO1 := hide hlo1
      have HL31 := hide hl31
      have HU := hide hu
      have HBu := hide hBu
      clear hu hBu hbx hpb hl1 hlo1 hl31
      go_wp2_with fail
      rw [← unhide HU]
      clear hG a0 a1 a2 a3 HU
      go_region_law (first
        | (refine stp_appa _ rfl _ _ rfl P' pc' l1 (M.cut0 k).pend.length rfl (unhide HLn) (unhide hlo2) w2.heap.size 1 (t.1, y, cy) rfl (unhide hsrc) hll1 ?_; intro G2 cap2 w3 ho3 hg3 hloc3; obtain ⟨k3, g5, di5, dj5, ag5⟩ := clone_add hij (unhide HDi) (unhide HDj) (unhide HTk) (unhide hb3) (unhide hy3) (unhide HL1) (unhide HLO1) (unhide HL31) ho3 hg3 hloc3; have k31 := k3.1; have k32 := k3.2)
        | (go_simp; go_at_call 27; refine (aclone_any (t.1.k : Int) (t.1.p : Int) t.1.n t.2.1 t.2.2 t.1.b _ hnn hbt hbl).mono ?_; rintro e w2 ⟨y, cy, rfl, ho2, hb2⟩; have e32 : w2.cell? ⟨T, 3, none⟩ = some (.slice P' (M.cut0 k).pend.length pc') := ((unhide HDj).below hb2).c3; have hb3 : Hid (Below u.drew.heap.size u.drew (w2.alloc (.cells (acC (t.1, y, cy)).toArray 63))) := hb2.alloc hb2.size _; have e33 : (w2.alloc (.cells #[.int .i64 (t.1.k : Int), .string (str t.1.n), .int .i64 (t.1.p : Int), .slice y t.1.b.length cy] 63)).cell? ⟨T, 3, none⟩ = some (.slice P' (M.cut0 k).pend.length pc') := ((unhide HDj).below (unhide hb3)).c3; have hy3 : Hid (OwnB (w2.alloc (.cells (acC (t.1, y, cy)).toArray 63)) u.drew.heap.size y cy t.1.b) := ho2.alloc _; have hsrc : Hid ((w2.alloc (.cells (acC (t.1, y, cy)).toArray 63)).heap[w2.heap.size]? = some (.cells (acC (t.1, y, cy)).toArray 63 (0, 0))) := heap_alloc_new w2 _; have hlo2 : Hid (OwnA (w2.alloc (.cells (acC (t.1, y, cy)).toArray 63)) P' pc' l1) := (unhide HLO1).below (unhide hb3)))
      all_goals
        have hsz1 := (unhide HBu).size
        have hsz2 := (unhide hb3).size
        have hw0 := (unhide HB).size
        obtain ⟨u6, hu6⟩ : ∃ u6, u6 = w3.setCell ⟨T, 3, none⟩ (.slice (some ⟨G2, 0, none⟩) ((M.cut0 k).pend.length + 1) cap2) := ⟨_, rfl⟩
        have hnn2 : (M.cut0 k).pend.length = l1.length := unhide HLn
        rw [← hnn2] at di5 dj5
        simp only [← hu6] at di5 dj5
        have HB6 : Hid (Below w'.heap.size w' u6) := by
          have q1 : Below w'.heap.size w' u.drew := (unhide HB).trans ((unhide HBu).mono hw0)
          have q2 := q1.trans ((unhide hb3).mono q1.size)
          have q3 := q2.grown hg3 (Nat.le_trans q1.size hsz2) (fun b hb => by
            have h1 := (unhide HDj).gP b hb
            rcases Nat.lt_or_ge b w'.heap.size with h2 | h2
            · exact absurd (show (g b).of j by rw [← unhide HG b h2, h1]; rfl) (hj b h2)
            · exact h2)
          have hTT : w'.heap.size ≤ T := by rw [← unhide HT]; exact Nat.le_refl _
          rw [hu6]
          exact q3.grown (grownBy_setCell w3 ⟨T, 3, none⟩ _) q3.size (fun b hb => by rw [← Option.some.inj hb]; exact hTT)
        have HAG6 : Hid (∀ b, b < w'.heap.size → g5 b = g b) := fun b hb => (ag5 b (Nat.lt_of_lt_of_le hb (Nat.le_trans hw0 hsz1))).trans (unhide HG b hb)
        have HDI6 := hide di5
        have HDJ6 := hide dj5
        rw [← hu6]
        clear hu6 di5 dj5 ag5 k31 k32 k3 ho3 hg3 hloc3 hnn2 hsz1 hsz2 hw0
        go_wp2
        go_roundw
        case rel => exact ⟨k + 1, g5, some ⟨G2, 0, none⟩, cap2, by omega, by go_num, HDI6, HDJ6, HB6, HAG6⟩
        case measure => simp [intOf]; omega
    · obtain rfl : k = M.pend.length := by omega
      have HE : Hid (M.cut0 M.pend.length = M) := by show _ = _; unfold Md.cut0; rw [List.take_length]
      go_wp2
      go_ret
      refine ⟨gk, { D := T, L := B1, S := B2, K := B3, P := P', pc := pc', kc := J.kc }, rfl, unhide HD, ?_, ?_, unhide HB, unhide HG, by rw [← unhide HT]; exact Nat.le_refl _⟩
      · have := unhide HJ
        rw [unhide HE] at this
        exact this
      · exact ⟨ok.r0, ok.r1, ok.ln, ok.sn, ok.kc, ok.sl, ok.ll, ok.pe⟩
#print axioms clone_any
end Go.Proofs.Ytkhpjlgbiicdcaa
