/-
  disk: a disk in memory; count, settle.
-/
import Derived.Test.YtkhpjlgbiicdcaaDskD
set_option linter.unusedVariables false
namespace Go.Proofs.Ytkhpjlgbiicdcaa
open Go.RowKit Go.Maps

/-- What a disk is. -/
structure Md where
  room : Int
  last : Files
  lastN : Nat
  seen : Files
  seenN : Nat
  pend : List Ac
  peaks : Nm → Int
  used : Int
def Md.count (M : Md) (n : Nm) (z : Int) : Md := { M with used := wrap64 (M.used + wrap64 (z - M.peaks n)), peaks := upd M.peaks n z }
def Md.settle (M : Md) (n : Nm) : Md := M.count n ((fget M.seen n).length : Int)
/-- Where it lies. -/
structure DJ where
  D : Nat
  L : Nat
  S : Nat
  K : Nat
  P : Option Addr
  pc : Nat
  kc : Nat

def dcells (J : DJ) (M : Md) : Array Value := #[.int .i64 M.room, .map (some J.L), .map (some J.S), .slice J.P M.pend.length J.pc, .map (some J.K), .int .i64 M.used]
/-- The disk number i lies at J, and is M. -/
structure DS (w : World) (g : Nat → Tg) (i : Nat) (J : DJ) (M : Md) : Prop where
  dsk : w.heap[J.D]? = some (.cells (dcells J M) 58 (0, 0))
  gD : g J.D = .d i
  gL : g J.L = .l i
  gS : g J.S = .s i
  gK : g J.K = .k i
  gP : ∀ k, blk J.P = some k → g k = .p i
  fl : FM w g (.lr i) J.L M.last M.lastN
  fs : FM w g (.sr i) J.S M.seen M.seenN
  pk : PK w J.K M.peaks J.kc
  pd : ∃ l : List At, l.map (·.1) = M.pend ∧ OwnA w J.P J.pc l ∧ ∀ t ∈ l, Bs w t.2.1 t.2.2 t.1.b ∧ ∀ k, blk t.2.1 = some k → k < w.heap.size ∧ g k = .a i
theorem DS.trL {w : World} {g : Nat → Tg} {i : Nat} {J : DJ} {M : Md} (h : DS w g i J M) : TR g (.lr i) J.L := ⟨(fun m e => by rw [h.gL] at e; cases e), (fun m n e => by cases e; rfl)⟩
theorem DS.trS {w : World} {g : Nat → Tg} {i : Nat} {J : DJ} {M : Md} (h : DS w g i J M) : TR g (.sr i) J.S := ⟨(fun m e => by rw [h.gS] at e; cases e), (fun m n e => by cases e; rfl)⟩
theorem DS.ltD {w : World} {g : Nat → Tg} {i : Nat} {J : DJ} {M : Md} (h : DS w g i J M) : J.D < w.heap.size := (Array.getElem?_eq_some_iff.1 h.dsk).1
theorem DS.c0 {w : World} {g : Nat → Tg} {i : Nat} {J : DJ} {M : Md} (h : DS w g i J M) : w.cell? ⟨J.D, 0, none⟩ = some (.int .i64 M.room) := by rw [cell_of_row w J.D 0 _ _ _ h.dsk]; rfl
theorem DS.c1 {w : World} {g : Nat → Tg} {i : Nat} {J : DJ} {M : Md} (h : DS w g i J M) : w.cell? ⟨J.D, 1, none⟩ = some (.map (some J.L)) := by rw [cell_of_row w J.D 1 _ _ _ h.dsk]; rfl
theorem DS.c2 {w : World} {g : Nat → Tg} {i : Nat} {J : DJ} {M : Md} (h : DS w g i J M) : w.cell? ⟨J.D, 2, none⟩ = some (.map (some J.S)) := by rw [cell_of_row w J.D 2 _ _ _ h.dsk]; rfl
theorem DS.c3 {w : World} {g : Nat → Tg} {i : Nat} {J : DJ} {M : Md} (h : DS w g i J M) : w.cell? ⟨J.D, 3, none⟩ = some (.slice J.P M.pend.length J.pc) := by rw [cell_of_row w J.D 3 _ _ _ h.dsk]; rfl
theorem DS.c4 {w : World} {g : Nat → Tg} {i : Nat} {J : DJ} {M : Md} (h : DS w g i J M) : w.cell? ⟨J.D, 4, none⟩ = some (.map (some J.K)) := by rw [cell_of_row w J.D 4 _ _ _ h.dsk]; rfl
theorem DS.c5 {w : World} {g : Nat → Tg} {i : Nat} {J : DJ} {M : Md} (h : DS w g i J M) : w.cell? ⟨J.D, 5, none⟩ = some (.int .i64 M.used) := by rw [cell_of_row w J.D 5 _ _ _ h.dsk]; rfl
theorem DS.fr {w : World} {g : Nat → Tg} {i : Nat} {J : DJ} {M : Md} (h : DS w g i J M) (k : Nat) : w.frozen? ⟨J.D, k, none⟩ = false := frozen_of_row w J.D k _ _ h.dsk
/-- What is done elsewhere leaves the disk as it is. -/
theorem DS.st {w w' : World} {g g' : Nat → Tg} {S : Tg → Prop} {i : Nat} {J : DJ} {M : Md} (h : DS w g i J M) (x : St w w' g g' S) (hs : ∀ t, t.of i → ¬ S t) : DS w' g' i J M := by
  have hd : ∀ (k : Nat) (t : Tg), g k = t → t.of i → k < w.heap.size → g' k = t := fun k t e _ hk => (x.ag k hk).trans e
  refine ⟨x.heap h.dsk (by rw [h.gD]; exact hs _ rfl), hd _ _ h.gD rfl h.ltD, hd _ _ h.gL rfl h.fl.lt, hd _ _ h.gS rfl h.fs.lt, hd _ _ h.gK rfl h.pk.lt, ?_, h.fl.st x (by rw [h.gL]; exact hs _ rfl) (fun n => hs _ rfl), h.fs.st x (by rw [h.gS]; exact hs _ rfl) (fun n => hs _ rfl), h.pk.st x (by rw [h.gK]; exact hs _ rfl), ?_⟩
  · intro k hk
    obtain ⟨l, _, hl, _⟩ := h.pd
    exact hd _ _ (h.gP k hk) rfl (hl.lt k hk)
  · obtain ⟨l, h1, h2, h3⟩ := h.pd
    refine ⟨l, h1, h2.st x (fun k hk => by rw [h.gP k hk]; exact hs _ rfl), fun t ht => ⟨(h3 t ht).1.st x (fun k hk => by rw [((h3 t ht).2 k hk).2]; exact hs _ rfl), fun k hk => ?_⟩⟩
    have := (h3 t ht).2 k hk
    exact ⟨Nat.lt_of_lt_of_le this.1 x.size, (x.ag k this.1).trans this.2⟩
theorem DS.below {w w' : World} {g : Nat → Tg} {i : Nat} {J : DJ} {M : Md} (h : DS w g i J M) (x : Below w.heap.size w w') : DS w' g i J M := h.st (St.ofBelow g (fun _ => False) x) (fun _ _ e => e)

theorem grownBy_setdrew (w : World) (p : Addr) (u : Value) : w.grownBy (w.setCell p u).drew (some p.block) :=
  ⟨rfl, rfl, rfl, (grownBy_setCell w p u).size, fun k hk hne => (grownBy_setCell w p u).block k hk hne⟩
theorem wf_i64 {z : Int} (h1 : -9223372036854775808 ≤ z) (h2 : z ≤ 9223372036854775807) : (Lit.int .i64 z).wf = true := by
  simp [Lit.wf, IntKind.min, IntKind.max, IntKind.bits, IntKind.signed]
  omega

set_option maxRecDepth 20000 in
set_option maxHeartbeats 2000000 in
theorem count_any (g : Nat → Tg) (i : Nat) (J : DJ) (M : Md) (n : Nm) (z : Int) (w : World) (h : DS w g i J M) (hn : n.length ≤ 1000) (hz : (Lit.int .i64 z).wf = true) (hk : J.kc ≤ 1000000) :
    Calls Try.prog 50 #[.pointer (some ⟨J.D, 0, none⟩), .string (str n), .int .i64 z] w fun e w' => e = .returned (.tuple #[]) ∧ Hid (DS w' g i { J with kc := J.kc + 1 } (M.count n z)) ∧ Hid (St w w' g g (fun t => t = .d i ∨ t = .k i)) := by
  have hnm : n.length ≤ maxLen := by unfold maxLen; omega
  have c4 := h.c4
  have c5 := h.c5
  have f5 := h.fr 5
  obtain ⟨_, look⟩ := h.pk.at n hnm
  have hl := look w.drew rfl
  obtain ⟨w1, hw1⟩ : ∃ w1, w1 = (w.setCell ⟨J.D, 5, none⟩ (.int .i64 (wrap64 (M.used + wrap64 (z - M.peaks n))))).drew := ⟨_, rfl⟩
  have g1 : w.grownBy w1 (some J.D) := by rw [hw1]; exact grownBy_setdrew w ⟨J.D, 5, none⟩ _
  have hneK : J.K ≠ J.D := fun e => by have := h.gK; rw [e, h.gD] at this; cases this
  have pk1 : PK w1 J.K M.peaks J.kc := h.pk.st (St.ofG (g := g) (S := fun t => t = .d i) g1 (fun k hk => by rw [← Option.some.inj hk]; exact h.gD)) (by rw [h.gK]; intro e; cases e)
  obtain ⟨w2, hup, pk2, g2⟩ := pk1.put n hnm (by unfold maxLen; omega) z hz
  have d1 : w1.heap[J.D]? = some (.cells #[.int .i64 M.room, .map (some J.L), .map (some J.S), .slice J.P M.pend.length J.pc, .map (some J.K), .int .i64 (wrap64 (M.used + wrap64 (z - M.peaks n)))] 58 (0, 0)) := by
    rw [hw1]
    show ((w.setCell ⟨J.D, 5, none⟩ _).heap)[J.D]? = _
    simp only [World.setCell, Array.getElem?_modify]
    rw [if_pos trivial, h.dsk]
    rfl
  have k4 : w1.cell? ⟨J.D, 4, none⟩ = some (.map (some J.K)) := by rw [cell_of_row w1 J.D 4 _ _ _ d1]; rfl
  have s1 : St w w1 g g (fun t => t = .d i ∨ t = .k i) := St.ofG g1 (fun k hk => by rw [← Option.some.inj hk]; exact .inl h.gD)
  have s2 : St w1 w2 g g (fun t => t = .k i) := St.ofG g2 (fun k hk => by rw [← Option.some.inj hk]; exact h.gK)
  have HS : Hid (St w w2 g g (fun t => t = .d i ∨ t = .k i)) := s1.trans (s2.mono (fun t e => .inr e))
  have HD : Hid (DS w2 g i { J with kc := J.kc + 1 } (M.count n z)) := by
    have S := unhide HS
    refine ⟨?_, h.gD, h.gL, h.gS, h.gK, h.gP, h.fl.st S ?_ ?_, h.fs.st S ?_ ?_, pk2, ?_⟩
    · exact s2.heap d1 (by rw [h.gD]; intro e; cases e)
    · rw [h.gL]; rintro (e | e) <;> cases e
    · rintro m (e | e) <;> cases e
    · rw [h.gS]; rintro (e | e) <;> cases e
    · rintro m (e | e) <;> cases e
    · obtain ⟨l, h1, h2, h3⟩ := h.pd
      refine ⟨l, h1, h2.st S (fun k hk => by rw [h.gP k hk]; rintro (e | e) <;> cases e), fun t ht => ⟨(h3 t ht).1.st S (fun k hk => by rw [((h3 t ht).2 k hk).2]; rintro (e | e) <;> cases e), fun k hk => ?_⟩⟩
      have := (h3 t ht).2 k hk
      exact ⟨Nat.lt_of_lt_of_le this.1 S.size, this.2⟩
  have HW := hide hw1
  clear hw1 g1 pk1 d1 s1 s2 g2 pk2 look
  go_enter Try.func50, Try.ntmps50
  go_wp2_with fail
  go_region
  rw [← unhide HW]
  go_wp2
  go_end0
  exact ⟨rfl, HD, HS⟩
#print axioms count_any
end Go.Proofs.Ytkhpjlgbiicdcaa
