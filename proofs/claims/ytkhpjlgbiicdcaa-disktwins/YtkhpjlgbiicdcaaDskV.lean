/-
  disk: the calls bundled; awake.
-/
import Derived.Test.YtkhpjlgbiicdcaaDskU
set_option linter.unusedVariables false
namespace Go.Proofs.Ytkhpjlgbiicdcaa
open Go.RowKit Go.Maps

def Tg.is : Tg → Nat → Bool
  | .o, _ => false
  | .d j, i => j == i
  | .l j, i => j == i
  | .s j, i => j == i
  | .k j, i => j == i
  | .p j, i => j == i
  | .a j, i => j == i
  | .lr j _, i => j == i
  | .sr j _, i => j == i
theorem Tg.is_of (t : Tg) (i : Nat) : t.is i = true ↔ t.of i := by cases t <;> simp [Tg.is, Tg.of]
/-- Nothing is disk j's. -/
def retag (j : Nat) (g : Nat → Tg) : Nat → Tg := fun b => if (g b).is j then .o else g b
theorem retag_of (j : Nat) (g : Nat → Tg) (b : Nat) : ¬ (retag j g b).of j := by
  unfold retag
  cases h : (g b).is j
  · intro e; rw [if_neg (by simp)] at e; rw [(Tg.is_of _ _).2 e] at h; cases h
  · simp [Tg.of]
theorem retag_same {j : Nat} {g : Nat → Tg} {b : Nat} {t : Tg} {i : Nat} (h : g b = t) (ht : t.of i) (hij : i ≠ j) : retag j g b = t := by
  unfold retag
  rw [if_neg, h]
  rw [h, Tg.is_of]
  intro e
  cases t <;> simp [Tg.of] at ht e <;> omega
theorem FM.tags {w : World} {g g' : Nat → Tg} {tr : Nm → Tg} {bm cnt : Nat} {f : Files} (h : FM w g tr bm f cnt) (e : ∀ b n, g b = tr n → g' b = tr n) : FM w g' tr bm f cnt := by
  obtain ⟨D, h1, h2, h3⟩ := h
  refine ⟨D, h1, h2, fun n => ?_⟩
  rcases h3 n with h' | ⟨l, x, c, k1, k2, k3, k4, k5⟩
  · exact .inl h'
  · exact .inr ⟨l, x, c, k1, k2, k3, k4, fun b hb => e b n (k5 b hb)⟩
theorem DS.retag {w : World} {g : Nat → Tg} {i j : Nat} {J : DJ} {M : Md} (h : DS w g i J M) (hij : i ≠ j) : DS w (retag j g) i J M := by
  obtain ⟨l, h1, h2, h3⟩ := h.pd
  exact ⟨h.dsk, retag_same h.gD rfl hij, retag_same h.gL rfl hij, retag_same h.gS rfl hij, retag_same h.gK rfl hij, fun k hk => retag_same (h.gP k hk) rfl hij, h.fl.tags (fun b n e => retag_same e rfl hij), h.fs.tags (fun b n e => retag_same e rfl hij), h.pk, l, h1, h2, fun t ht => ⟨(h3 t ht).1, fun k hk => ⟨((h3 t ht).2 k hk).1, retag_same ((h3 t ht).2 k hk).2 rfl hij⟩⟩⟩

/-- The disk number i lies in block D. -/
def DK (w : World) (g : Nat → Tg) (i D : Nat) (M : Md) (N : Nat) : Prop := ∃ J, DS w g i J M ∧ MOk J M N ∧ J.D = D
theorem DK.st {w w' : World} {g g' : Nat → Tg} {i k D : Nat} {M : Md} {N : Nat} (h : DK w g i D M N) (x : St w w' g g' (fun t => t.of k)) (hne : i ≠ k) : DK w' g' i D M N := by
  obtain ⟨J, h1, h2, h3⟩ := h
  refine ⟨J, h1.st x (fun t ht e => ?_), h2, h3⟩
  cases t <;> simp [Tg.of] at ht e <;> omega
theorem DK.below {w w' : World} {g : Nat → Tg} {i D : Nat} {M : Md} {N : Nat} (h : DK w g i D M N) (x : Below w.heap.size w w') : DK w' g i D M N := by
  obtain ⟨J, h1, h2, h3⟩ := h
  exact ⟨J, h1.below x, h2, h3⟩
theorem DK.lt {w : World} {g : Nat → Tg} {i D : Nat} {M : Md} {N : Nat} (h : DK w g i D M N) : D < w.heap.size := by
  obtain ⟨J, h1, h2, rfl⟩ := h
  exact h1.ltD
/-- What a call on disk i leaves. -/
def RK (w w' : World) (g : Nat → Tg) (i D : Nat) (M' : Md) (N : Nat) : Prop := ∃ g', DK w' g' i D M' N ∧ St w w' g g' (fun t => t.of i)
theorem RS.rk {w w' : World} {g : Nat → Tg} {i : Nat} {J : DJ} {M' : Md} {N D : Nat} (h : RS w w' g i J M' N) (e : J.D = D) : RK w w' g i D M' N := by
  obtain ⟨g', J', h1, h2, h3, h4⟩ := h
  exact ⟨g', ⟨J', h1, h2, h4.trans e⟩, h3⟩
/-- What stands ahead of all. -/
structure LW (w0 w : World) (g : Nat → Tg) : Prop where
  below : Below w0.heap.size w0 w
  bas : ∀ k, k < w0.heap.size → g k = .o
theorem LW.st {w0 w w' : World} {g g' : Nat → Tg} {i : Nat} (h : LW w0 w g) (x : St w w' g g' (fun t => t.of i)) : LW w0 w' g' :=
  ⟨x.below h.below h.below.size (fun k hk e => by rw [h.bas k hk] at e; exact e), fun k hk => (x.ag k (Nat.lt_of_lt_of_le hk h.below.size)).trans (h.bas k hk)⟩
theorem LW.bel {w0 w w' : World} {g : Nat → Tg} (h : LW w0 w g) (x : Below w.heap.size w w') : LW w0 w' g := ⟨h.below.trans (x.mono h.below.size), h.bas⟩
theorem LW.start (w : World) : LW w w (fun _ => .o) := ⟨Below.refl _ _, fun _ _ => rfl⟩

theorem write_k (g : Nat → Tg) (i D : Nat) (M : Md) (N : Nat) (n : Nm) (x : Option Addr) (c : Nat) (b : List UInt8) (w : World) (h : DK w g i D M N) (hN : N ≤ 1400) (hn : n.length ≤ maxLen) (hb : Bs w x c b) (hbl : b.length ≤ 65536) :
    Calls Try.prog 23 #[.pointer (some ⟨D, 0, none⟩), .string (str n), .slice x b.length c] w fun e w' => e = .returned (.int .i64 (M.writeE n b.length)) ∧ RK w w' g i D (M.write n b) (N + 1) := by
  obtain ⟨J, h1, h2, rfl⟩ := h
  exact (write_any g i J M N n x c b w h1 h2 hN hn hb hbl).mono (fun e w' h => ⟨h.1, h.2.rk rfl⟩)
theorem sync_k (g : Nat → Tg) (i D : Nat) (M : Md) (N : Nat) (n : Nm) (w : World) (h : DK w g i D M N) (hN : N ≤ 1400) (hn : n.length ≤ maxLen) :
    Calls Try.prog 16 #[.pointer (some ⟨D, 0, none⟩), .string (str n)] w fun e w' => e = .returned (.int .i64 (M.thereE n)) ∧ RK w w' g i D (M.sync n) (N + 1) := by
  obtain ⟨J, h1, h2, rfl⟩ := h
  exact (sync_any g i J M N n w h1 h2 hN hn).mono (fun e w' h => ⟨h.1, h.2.rk rfl⟩)
theorem crash_k (g : Nat → Tg) (i D : Nat) (M : Md) (N : Nat) (kp : Option Addr) (kl : List Bool) (kc KL : Nat) (z : Int) (w : World) (h : DK w g i D M N) (hN : N ≤ 1400) (HKL : Hid (KL = kl.length)) (hk : BRow w kp kl) (hkm : KL ≤ maxLen) :
    Calls Try.prog 18 #[.pointer (some ⟨D, 0, none⟩), .slice kp KL kc, .int .i64 z] w fun e w' => e = .returned (.int .i64 0) ∧ RK w w' g i D (M.crash kl z) (N + 1) := by
  obtain ⟨J, h1, h2, rfl⟩ := h
  exact (crash_any g i J M N kp kl kc KL z w h1 h2 hN HKL hk hkm).mono (fun e w' h => ⟨h.1, h.2.rk rfl⟩)
theorem read_k (g : Nat → Tg) (i D : Nat) (M : Md) (N : Nat) (n : Nm) (w : World) (h : DK w g i D M N) (hN : N ≤ 1500) (hn : n.length ≤ maxLen) :
    Calls Try.prog 17 #[.pointer (some ⟨D, 0, none⟩), .string (str n)] w fun e w' => ∃ y cy, e = .returned (.tuple #[.slice y (M.readB n).length cy, .int .i64 (M.thereE n)]) ∧ OwnB w' w.heap.size y cy (M.readB n) ∧ Below w.heap.size w w' := by
  obtain ⟨J, h1, h2, rfl⟩ := h
  exact read_any g i J M N n w h1 h2 hN hn
theorem pending_k (g : Nat → Tg) (i D : Nat) (M : Md) (N : Nat) (w : World) (h : DK w g i D M N) :
    Calls Try.prog 12 #[.pointer (some ⟨D, 0, none⟩)] w fun e w' => e = .returned (.int .i64 (M.pend.length : Int)) ∧ w' = w := by
  obtain ⟨J, h1, h2, rfl⟩ := h
  exact pending_any g i J M w h1
/-- Clone: whatever the tags of number j were. -/
theorem clone_k (w0 : World) (g : Nat → Tg) (i j D : Nat) (M : Md) (N : Nat) (w : World) (hij : i ≠ j) (h : DK w g i D M N) (hL : LW w0 w g) (hN : N ≤ 1400) :
    Calls Try.prog 10 #[.pointer (some ⟨D, 0, none⟩)] w fun e w' => ∃ T g', e = .returned (.pointer (some ⟨T, 0, none⟩)) ∧ DK w' g' i D M N ∧ DK w' g' j T M N ∧ LW w0 w' g' ∧ Below w.heap.size w w' ∧ ∀ b, b < w.heap.size → g' b = retag j g b := by
  obtain ⟨J, h1, h2, rfl⟩ := h
  refine (clone_any (retag j g) i j J M N w hij (fun b _ => retag_of j g b) (h1.retag hij) h2 hN).mono ?_
  rintro e w' ⟨g', J', rfl, d1, d2, ok2, hb, hag, hlt⟩
  refine ⟨J'.D, g', rfl, ⟨J, d1, h2, rfl⟩, ⟨J', d2, ok2, rfl⟩, ⟨hL.below.trans (hb.mono hL.below.size), fun k hk => ?_⟩, hb, hag⟩
  rw [hag k (Nat.lt_of_lt_of_le hk hL.below.size)]
  unfold retag
  rw [hL.bas k hk]
  rfl
/-- New. -/
theorem new_k (w0 : World) (g : Nat → Tg) (i : Nat) (z : Int) (w : World) (h0 : 0 ≤ z) (h1 : z ≤ 16777216) (hL : LW w0 w g) :
    Calls Try.prog 21 #[.int .i64 z] w fun e w' => ∃ D g', e = .returned (.tuple #[.pointer (some ⟨D, 0, none⟩), .int .i64 0]) ∧ DK w' g' i D (Md.new z) 0 ∧ LW w0 w' g' ∧ Below w.heap.size w w' ∧ ∀ b, b < w.heap.size → g' b = g b := by
  refine (new_any z w h0 h1).mono ?_
  rintro e w' ⟨rfl, rfl⟩
  obtain ⟨B, hB⟩ : ∃ B, B = w.heap.size := ⟨_, rfl⟩
  have b1 : Below w.heap.size w (w.alloc (.map #[] 0)) := (Below.refl _ _).alloc (Nat.le_refl _) _
  have b2 : Below (w.alloc (.map #[] 0)).heap.size (w.alloc (.map #[] 0)) ((w.alloc (.map #[] 0)).alloc (.map #[] 0)) := (Below.refl _ _).alloc (Nat.le_refl _) _
  have b3 : Below ((w.alloc (.map #[] 0)).alloc (.map #[] 0)).heap.size ((w.alloc (.map #[] 0)).alloc (.map #[] 0)) (((w.alloc (.map #[] 0)).alloc (.map #[] 0)).alloc (.map #[] 0)) := (Below.refl _ _).alloc (Nat.le_refl _) _
  have b4 : Below (((w.alloc (.map #[] 0)).alloc (.map #[] 0)).alloc (.map #[] 0)).heap.size (((w.alloc (.map #[] 0)).alloc (.map #[] 0)).alloc (.map #[] 0)) ((((w.alloc (.map #[] 0)).alloc (.map #[] 0)).alloc (.map #[] 0)).alloc (.cells #[.int .i64 z, .map (some w.heap.size), .map (some (w.heap.size + 1)), .slice none 0 0, .map (some (w.heap.size + 1 + 1)), .int .i64 0] 58)) := (Below.refl _ _).alloc (Nat.le_refl _) _
  obtain ⟨g', hg'⟩ : ∃ g' : Nat → Tg, g' = (fun b => if b < w.heap.size then g b else if b = w.heap.size then .l i else if b = w.heap.size + 1 then .s i else if b = w.heap.size + 1 + 1 then .k i else if b = w.heap.size + 1 + 1 + 1 then .d i else .o) := ⟨_, rfl⟩
  have hag : ∀ b, b < w.heap.size → g' b = g b := fun b hb => by rw [hg']; simp [hb]
  have hbb : Below w.heap.size w _ := b1.trans ((b2.trans ((b3.trans (b4.mono b3.size)).mono b2.size)).mono b1.size)
  refine ⟨w.heap.size + 1 + 1 + 1, g', rfl, ⟨{ D := w.heap.size + 1 + 1 + 1, L := w.heap.size, S := w.heap.size + 1, K := w.heap.size + 1 + 1, P := none, pc := 0, kc := 0 }, ⟨?_, ?_, ?_, ?_, ?_, (fun k hk => by cases hk), ?_, ?_, ?_, [], rfl, OwnA.nil _, (fun t ht => by simp at ht)⟩, ⟨h0, h1, Nat.le_refl _, Nat.le_refl _, Nat.le_refl _, fun n => Nat.zero_le _, fun n => Nat.zero_le _, fun a ha => by simp [Md.new] at ha⟩, rfl⟩, ⟨hL.below.trans (hbb.mono hL.below.size), fun k hk => (hag k (Nat.lt_of_lt_of_le hk hL.below.size)).trans (hL.bas k hk)⟩, hbb, hag⟩
  · have := heap_alloc_new (((w.alloc (.map #[] 0)).alloc (.map #[] 0)).alloc (.map #[] 0)) (.cells #[.int .i64 z, .map (some w.heap.size), .map (some (w.heap.size + 1)), .slice none 0 0, .map (some (w.heap.size + 1 + 1)), .int .i64 0] 58)
    simp only [World.size_alloc] at this
    exact this
  · rw [hg']; dsimp only; exact (if_neg (by omega)).trans ((if_neg (by omega)).trans ((if_neg (by omega)).trans ((if_neg (by omega)).trans (if_pos rfl))))
  · rw [hg']; dsimp only; exact (if_neg (by omega)).trans (if_pos rfl)
  · rw [hg']; dsimp only; exact (if_neg (by omega)).trans ((if_neg (by omega)).trans (if_pos rfl))
  · rw [hg']; dsimp only; exact (if_neg (by omega)).trans ((if_neg (by omega)).trans ((if_neg (by omega)).trans (if_pos rfl)))
  · exact (((FM.made w g' (.lr i)).st (St.ofBelow g' (fun _ => False) b2) (fun e => e) (fun _ e => e)).st (St.ofBelow g' (fun _ => False) b3) (fun e => e) (fun _ e => e)).st (St.ofBelow g' (fun _ => False) b4) (fun e => e) (fun _ e => e)
  · have := ((FM.made (w.alloc (.map #[] 0)) g' (.sr i)).st (St.ofBelow g' (fun _ => False) b3) (fun e => e) (fun _ e => e)).st (St.ofBelow g' (fun _ => False) b4) (fun e => e) (fun _ e => e)
    simp only [World.size_alloc] at this
    exact this
  · have := (PK.made ((w.alloc (.map #[] 0)).alloc (.map #[] 0))).st (St.ofBelow g' (fun _ => False) b4) (fun e => e)
    simp only [World.size_alloc] at this
    exact this
#print axioms clone_k
#print axioms new_k
end Go.Proofs.Ytkhpjlgbiicdcaa
