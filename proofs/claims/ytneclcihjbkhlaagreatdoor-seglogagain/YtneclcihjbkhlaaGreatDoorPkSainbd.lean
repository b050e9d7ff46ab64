/-
  seglog's statements: a slice of calls that came in; of bools; of bytes: opened.; seglog's statements: play.; seglog's statements: a record onto the row of what was appended; a call as a local of its own.; seglog's statements: play.; seglog's statements: a new log has had no call; what Read gives, as mathematics.; seglog's statements: what a log tells in the midst of calls; the rows that are held against each other.; seglog's statements: a log whose disk crashes, and is opened again.; seglog's statements: two logs of one disk, one behind the other; SeglogAgain.
-/
import Derived.Test.YtneclcihjbkhlaaGreatDoorPkSainbc
import Derived.Deep.Grids
import Derived.Test.YtneclcihjbkhlaaGreatDoorPkSainbb
import Derived.Test.YtneclcihjbkhlaaGreatDoorPkSainae
section
set_option linter.unusedVariables false
namespace Go.Proofs.YtneclcihjbkhlaaGreatDoor
open Go.RowKit Go.Joins Go.WideShapes Go.ChangeShapes

theorem Tryz.cells5I : Tryz.prog.cellsOf 3 = 1 := by kernel_rfl
theorem Tryz.cells5B : Tryz.prog.cellsOf 39 = 1 := by kernel_rfl
theorem Tryz.cells5K : Tryz.prog.cellsOf 40 = 1 := by kernel_rfl
theorem Tryz.cells5D : Tryz.prog.cellsOf 42 = 5 := by kernel_rfl
section
variable {H : Type} {enc : TypeId × Value → H} {w : World}

theorem bytes_open {fuel : Nat} {cs : List Value} {x : DataW H × List MemPlace} (h : DataW.trod enc Tryz.prog w 0 (fun _ => true) true fuel 39 cs = some x) : ∃ a c l, cs = [.slice a l.length c] ∧ Bs w a c l := by
  obtain ⟨a, n, c, zs, rfl, hz⟩ : ∃ a n c zs, cs = [.slice a n c] ∧ IsRow w a n c zs := by
    rcases open_ints Tryz.underlying39 Tryz.underlying5 (by kernel_rfl) h with ⟨hcs, _⟩ | ⟨x, l, c, zs, hcs, _, hl, hm, hz, _, hcell, hwz⟩
    · exact ⟨none, 0, 0, [], hcs, .inl ⟨rfl, rfl, rfl, rfl⟩⟩
    · exact ⟨some x, l, c, zs, hcs, .inr ⟨_, rfl, hl, hm, by simpa using hz, hcell, hwz⟩⟩
  obtain ⟨l, rfl, hb⟩ := bs_of hz
  exact ⟨a, c, l, rfl, hb⟩
theorem bools_open {fuel : Nat} {cs : List Value} {x : DataW H × List MemPlace} (h : DataW.trod enc Tryz.prog w 0 (fun _ => true) true fuel 40 cs = some x) : ∃ a c l, cs = [.slice a l.length c] ∧ BRow w a l ∧ l.length ≤ maxLen := by
  rcases Go.Deep.open_bools Tryz.underlying40 Tryz.underlying4 (by kernel_rfl) h with ⟨hcs, _⟩ | ⟨x, l, c, B, hcs, _, hl, hm, _, hcell⟩
  · exact ⟨none, 0, [], hcs, fun h => absurd rfl h, Nat.zero_le _⟩
  · refine ⟨some x, c, (List.range l).map B, by simpa using hcs, fun hne => ?_, by simp; omega⟩
    have h0 : 0 < l := by
      rcases Nat.eq_zero_or_pos l with h | h
      · subst h; simp at hne
      · exact h
    obtain ⟨b, off, spot⟩ := x
    have hc0 := hcell 0 (by omega)
    have hspot : spot = Option.none := by simpa [Addr.add] using World.cell?_spot hc0
    subst hspot
    refine ⟨b, off, rfl, fun i hi => ?_⟩
    have hi' : i < l := by simpa using hi
    have := hcell i (by omega)
    rw [addr_add] at this
    rw [this]
    simp [List.getD, hi']
set_option maxRecDepth 100000 in
theorem do_el {fuel : Nat} {cs : List Value} {x : DataW H × List MemPlace} (h : DataW.trod enc Tryz.prog w 0 (fun _ => true) true fuel 42 cs = some x) : ∃ d a, cs = (DV5.cells d a).toList ∧ DV5 w d a := by
  obtain ⟨xs, k, _, _, hl, hlen, hf'⟩ := DataW.trod_struct Tryz.underlying42 h
  rw [Tryz.cells5D] at hl
  match cs, hl with
  | [v0, v1, v2, v3, v4], _ =>
    have t0 := hf' 0 _ rfl
    have t1 := hf' 1 _ rfl
    have t2 := hf' 2 _ rfl
    have t3 := hf' 3 _ rfl
    have t4 := hf' 4 _ rfl
    simp [Tryz.cells5I, Tryz.cells5B, Tryz.cells5K] at t0 t1 t2 t3 t4
    match xs, hlen with
    | [y0, y1, y2, y3, y4], _ =>
      simp only [List.getElem?_cons_zero, List.getElem?_cons_succ] at t0 t1 t2 t3 t4
      obtain ⟨o, e0, _⟩ := DataW.trod_int Tryz.underlying3 t0
      obtain ⟨a, c, l, e1, hb⟩ := bytes_open t1
      obtain ⟨s, e2, _⟩ := DataW.trod_int Tryz.underlying3 t2
      obtain ⟨z, e3, _⟩ := DataW.trod_int Tryz.underlying3 t3
      obtain ⟨y, m, kl, e4, hk, hkm⟩ := bools_open t4
      simp only [List.cons.injEq, and_true] at e0 e1 e2 e3 e4
      subst e0 e1 e2 e3 e4
      exact ⟨⟨o, l, s, z, kl⟩, ⟨a, c, y, m⟩, rfl, ⟨hb, hk, hkm⟩⟩
set_option maxRecDepth 100000 in
theorem dos_open {fuel : Nat} {cs : List Value} {x : DataW H × List MemPlace} (h : DataW.trod enc Tryz.prog w 0 (fun _ => true) true fuel 22 cs = some x) : ∃ p c l, cs = [.slice p l.length c] ∧ DR5 w p l := by
  rcases Go.Deep.open_slice Tryz.underlying22 h with ⟨hcs, _⟩ | ⟨x, len, cap, m, n, D, Pl, hcs, _, hl, hm, hmm, _, hr⟩
  · exact ⟨none, 0, [], hcs, ⟨fun h => absurd rfl h, Nat.zero_le _⟩⟩
  · simp only [if_true] at hmm
    subst hmm
    have each : ∀ i, i < len → ∃ d : D5, ∃ a, DV5 w d a ∧ w.cells? 0 (x.add (i * 5)) 5 = some (DV5.cells d a).toList := by
      intro i hi
      obtain ⟨cs', k1, k2⟩ := hr i (by omega)
      obtain ⟨d, a, rfl, hv⟩ := do_el k2
      refine ⟨d, a, hv, ?_⟩
      have k3 : w.cells? 0 (x.add (i * Tryz.prog.cellsOf 42)) (Tryz.prog.cellsOf 42) = some (DV5.cells d a).toList := k1
      rw [Tryz.cells5D] at k3
      exact k3
    obtain ⟨f, hf⟩ : ∃ f : Nat → D5, ∀ i, i < len → ∃ a, DV5 w (f i) a ∧ w.cells? 0 (x.add (i * 5)) 5 = some (DV5.cells (f i) a).toList :=
      ⟨fun i => if h : i < len then (each i h).choose else ⟨0, [], 0, 0, []⟩, fun i h => by simp only [dif_pos h]; exact (each i h).choose_spec⟩
    refine ⟨some x, m, (List.range len).map f, by simpa using hcs, ⟨fun hne => ?_, by simp; omega⟩⟩
    have h0 : 0 < len := by
      rcases Nat.eq_zero_or_pos len with h | h
      · subst h; simp at hne
      · exact h
    have key : ∀ i a j v, w.cells? 0 (x.add (i * 5)) 5 = some (DV5.cells (f i) a).toList → (DV5.cells (f i) a).toList[j]? = some v → w.cell? ((x.add (i * 5)).add j) = some v := by
      intro i a j v e1 e2
      have hj : j < 5 := by have := (List.getElem?_eq_some_iff.1 e2).1; simpa [DV5.cells] using this
      rw [(World.cells?_some e1).2.2 j hj, e2]
    obtain ⟨b, off, spot⟩ := x
    have hspot : spot = Option.none := by
      obtain ⟨a, _, e⟩ := hf 0 h0
      have := key 0 a 0 _ e rfl
      simpa [Addr.add] using World.cell?_spot this
    subst hspot
    refine ⟨b, off, rfl, fun t d hd => ?_⟩
    have ht : t < len := by have := (List.getElem?_eq_some_iff.1 hd).1; simpa using this
    obtain rfl : f t = d := by simpa [ht] using hd
    obtain ⟨a, hv, e⟩ := hf t ht
    have k := fun j v => key t a j v e
    rw [addr_add] at k
    simp only [addr_add] at k
    exact ⟨a, hv, k 0 _ rfl, k 1 _ rfl, k 2 _ rfl, k 3 _ rfl, k 4 _ rfl⟩
end
#print axioms dos_open
end Go.Proofs.YtneclcihjbkhlaaGreatDoor
end
section
set_option linter.unusedVariables false
set_option maxRecDepth 1000000
namespace Go.Proofs.YtneclcihjbkhlaaGreatDoor
open Go.RowKit Go.Maps

/-- A row of records that belong to no log. -/
structure Rws (w : World) (g : Nat → Tg) (a : Option Addr) (c : Nat) (vs : List Sl) (all : List (List UInt8)) : Prop where
  ow : OwnS w 0 a c vs
  ga : ∀ k, blk a = some k → g k = .p 2
  n : vs.length = all.length
  at' : ∀ (j : Nat) (v : Sl) (r : List UInt8), vs[j]? = some v → all[j]? = some r → v.2.1 = r.length ∧ Bs w v.1 v.2.2 r ∧ ∀ k, blk v.1 = some k → k < w.heap.size ∧ g k = .o
theorem Rws.st {w w' : World} {g g' : Nat → Tg} {X : Tg → Prop} {a : Option Addr} {c : Nat} {vs : List Sl} {all : List (List UInt8)} (h : Rws w g a c vs all) (x : St w w' g g' X) (hX : ¬ X .o) (hp : ¬ X (.p 2)) : Rws w' g' a c vs all := by
  refine ⟨h.ow.same9 (fun k hk => x.block k (h.ow.lt k hk).2 (by rw [h.ga k hk]; exact hp)), fun k hk => (x.ag k (h.ow.lt k hk).2).trans (h.ga k hk), h.n, fun j v r h1 h2 => ?_⟩
  obtain ⟨p, b, q⟩ := h.at' j v r h1 h2
  exact ⟨p, b.same9 (fun k hk => x.block k (q k hk).1 (by rw [(q k hk).2]; exact hX)), fun k hk => ⟨Nat.lt_of_lt_of_le (q k hk).1 x.size, (x.ag k (q k hk).1).trans (q k hk).2⟩⟩
theorem Rws.nil (w : World) (g : Nat → Tg) : Rws w g none 0 [] [] := ⟨OwnS.nil _ _, fun k hk => by simp [blk] at hk, rfl, fun j v r h1 => by simp at h1⟩
/-- A log in the midst of calls without crashes, and what was appended. -/
def PlT (w0 w : World) (B D : Nat) (S : List Sg) (a : Option Addr) (c : Nat) (vs : List Sl) (all all' : List (List UInt8)) (k y : Nat) : Prop :=
  ∃ M N g P pc l, LgS w g B D P pc l S ∧ DK w g 0 D M N ∧ LW w0 w g ∧ Rws w g a c vs all ∧ Pl M S all' k ∧ N + S.length ≤ 302 + 3 * k ∧ ∃ q, Du M S q ∧ y < duN S q
def PlS (w0 w : World) (B D : Nat) (S : List Sg) (a : Option Addr) (c : Nat) (vs : List Sl) (all : List (List UInt8)) (k y : Nat) : Prop := PlT w0 w B D S a c vs all all k y
theorem x01p : ¬ X01 (.p 2) := by rintro (h | h) <;> simp [Tg.of] at h
/-- Whatever is made anew belongs to no log. -/
theorem PlS.below {w0 w w' : World} {B D : Nat} {S : List Sg} {a : Option Addr} {c : Nat} {vs : List Sl} {all : List (List UInt8)} {k y : Nat} (h : PlS w0 w B D S a c vs all k y) (hb : Below w.heap.size w w') : PlS w0 w' B D S a c vs all k y := by
  obtain ⟨M, N, g, P, pc, l, h1, h2, h3, h4, h5, h6, q0, hdu, hy⟩ := h
  exact ⟨M, N, g, P, pc, l, h1.below hb, h2.below hb, h3.bel hb, h4.st (St.ofBelow g (fun _ => False) hb) (fun e => e) (fun e => e), h5, h6, q0, hdu, hy⟩
theorem sync_pl (w0 w : World) (B D : Nat) (S : List Sg) (a : Option Addr) (c : Nat) (vs : List Sl) (all : List (List UInt8)) (k y : Nat) (hE : EnvS w0) (h : PlS w0 w B D S a c vs all k y) (hk : k ≤ 100) :
    Calls Tryz.prog 15 #[.pointer (some ⟨B, 0, none⟩)] w fun e w' => e = .returned (.int .i64 0) ∧ Hid (PlS w0 w' B D S a c vs all (k + 1) all.length) := by
  obtain ⟨M, N, g, P, pc, l, h1, h2, h3, h4, h5, h6, q0, hdu, hy⟩ := h
  refine (sync5 w0 g B D P pc l S M N w hE h3 h1 h2 (h5.ok hk) (by omega)).mono ?_
  rintro e w' ⟨rfl, g', P', pc', l', q1, q2, q3⟩
  refine ⟨by rw [h5.th.syE], _, _, g', P', pc', l', q1, q2, h3.st2 q3 x01o, h4.st q3 x01o x01p, h5.seen (syM_seen _ _), by omega, _, (hdu.sync h5.th h5.wf.sz).1, by rw [duN_all, h5.nx]; omega⟩
theorem trim_pl (w0 w : World) (B D : Nat) (S : List Sg) (a : Option Addr) (c : Nat) (vs : List Sl) (all : List (List UInt8)) (k y : Nat) (z : Int) (hE : EnvS w0) (h : PlS w0 w B D S a c vs all k y) (hk : k ≤ 100) :
    Calls Tryz.prog 17 #[.pointer (some ⟨B, 0, none⟩), .int .i64 z] w fun e w' => e = .returned (.int .i64 0) ∧ Hid (PlS w0 w' B D (S.drop (trK S z)) a c vs all (k + 1) y) := by
  obtain ⟨M, N, g, P, pc, l, h1, h2, h3, h4, h5, h6, q0, hdu, hy⟩ := h
  have hsl := h5.sl
  refine (trim5 w0 g B D P pc l S M N z w hE h3 h1 h2 (by omega) (by omega) h5.wf h5.th).mono ?_
  rintro e w' ⟨rfl, g', P', pc', l', q1, q2, q3⟩
  have hlt : trK S z ≤ S.length := by
    by_cases hS : S = []
    · subst hS; simp [trK]
    · exact Nat.le_of_lt (trK_lt S z hS)
  obtain ⟨qn, hd2, hd3⟩ := hdu.trim (h5.nice hk) h5.wf.sz z
  refine ⟨rfl, _, _, g', P', pc', l', q1, q2, h3.st2 q3 x01o, h4.st q3 x01o x01p, h5.trim z, ?_, qn, hd2, Nat.lt_of_lt_of_le hy hd3⟩
  rw [List.length_drop]
  omega
/-- Append of a record that belongs to no log. -/
theorem append_pl (w0 w wb : World) (B D : Nat) (S : List Sg) (a : Option Addr) (c : Nat) (vs : List Sl) (all : List (List UInt8)) (k y : Nat) (x : Option Addr) (xc : Nat) (r : List UInt8) (hE : EnvS w0) (h : PlS w0 wb B D S a c vs all k y) (hb : Below wb.heap.size wb w) (hk : k ≤ 100) (hx : OwnB w wb.heap.size x xc r) (hr : r.length ≤ 200000) :
    Calls Tryz.prog 22 #[.pointer (some ⟨B, 0, none⟩), .slice x r.length xc] w fun e w' => ∃ (m : Nat) (E : Int), e = .returned (.tuple #[.int .i64 (m : Int), .int .i64 E]) ∧ ((E = 0 ∧ Hid (PlT w0 w' B D (apS S r) a c vs all (all ++ [r]) (k + 1) y)) ∨ (E ≠ 0 ∧ Hid (PlS w0 w' B D S a c vs all (k + 1) y))) ∧ Hid (∀ j, wb.heap.size ≤ j → j < w.heap.size → w'.heap[j]? = w.heap[j]?) := by
  obtain ⟨M, N, g, P, pc, l, h1, h2, h3, h4, h5, h6, q0, hdu, hy⟩ := h
  obtain ⟨g1, hg1⟩ : ∃ g1 : Nat → Tg, g1 = fun b => if b < wb.heap.size then g b else .o := ⟨_, rfl⟩
  have st1 : St wb w g g1 (fun _ => False) := (St.ofBelow g _ hb).tag (fun k hk => by rw [hg1]; exact if_pos hk)
  have hgo : ∀ j, wb.heap.size ≤ j → g1 j = .o := fun j hj => by rw [hg1]; exact if_neg (by omega)
  have hL1 := h3.st2 st1 (fun e => e)
  have hR1 := h4.st st1 (fun e => e) (fun e => e)
  have hok := h5.ok hk
  have hsl := h5.sl
  have hrc : (S.flatMap (·.recs)).length ≤ all.length := by rw [h5.rc]; simp
  have hal := h5.al
  have hsz := h5.sz
  have hzb := szB_le hk
  refine (append5 w0 g1 B D P pc l S M N x xc r w hE hL1 (h1.keep st1 (fun t _ e => e)) (h2.keep1 (st1.mono (fun t e => e.elim))) hok h5.wf (by omega) hx.toBs (fun j hj => ?_) (by omega) (by omega) (by omega) (by omega) (fun _ => h5.th.syE)).mono ?_
  · obtain ⟨q1, q2⟩ := hx.lt j hj
    exact ⟨q2, by rw [hgo j q1]; exact x01o⟩
  · rintro e w' ⟨n', E, rfl, hE', hr'⟩
    rcases hr' with ⟨h0, hn', hr'⟩ | ⟨h0, _, M', hM', hr'⟩
    · obtain ⟨g', P', pc', l', q1, q2, q3⟩ := hr'
      have hlen : (apS S r).length ≤ S.length + 1 := by
        unfold apS
        split
        · split <;> simp <;> omega
        · simp
      obtain ⟨qn, hd2, hd3⟩ := hdu.app h5 hk (r := r) (by rw [← hE', h0])
      exact ⟨n', E, rfl, .inl ⟨h0, _, _, g', P', pc', l', q1, q2, hL1.st2 q3 x01o, hR1.st q3 x01o x01p, h5.app hk hr (by rw [← hE', h0]), by omega, qn, hd2, Nat.lt_of_lt_of_le hy hd3⟩, fun j j1 j2 => q3.block j j2 (by rw [hgo j j1]; exact x01o)⟩
    · obtain ⟨g', P', pc', l', q1, q2, q3⟩ := hr'
      refine ⟨n', E, rfl, .inr ⟨h0, M', _, g', P', pc', l', q1, q2, hL1.st2 q3 x01o, hR1.st q3 x01o x01p, h5.seen ?_, by omega, ?_⟩, fun j j1 j2 => q3.block j j2 (by rw [hgo j j1]; exact x01o)⟩
      · rcases hM' with e | e
        · rw [e]
        · rw [e, apD_seen]
      · rcases hM' with e | e
        · rw [e]; exact ⟨q0, hdu, hy⟩
        · rw [e]
          obtain ⟨qn, hd2, hd3⟩ := hdu.apd h5.th h5.wf.sz
          exact ⟨qn, hd2, Nat.lt_of_lt_of_le hy hd3⟩
#print axioms append_pl
#print axioms trim_pl
end Go.Proofs.YtneclcihjbkhlaaGreatDoor
end
section
set_option linter.unusedVariables false
set_option maxRecDepth 1000000
namespace Go.Proofs.YtneclcihjbkhlaaGreatDoor
open Go.RowKit Go.Maps

theorem PlT.low {w0 w : World} {B D : Nat} {S : List Sg} {a : Option Addr} {c : Nat} {vs : List Sl} {all all' : List (List UInt8)} {k y : Nat} (h : PlT w0 w B D S a c vs all all' k y) : Below w0.heap.size w0 w := by
  obtain ⟨M, N, g, P, pc, l, h1, h2, h3, h4, h5, h6⟩ := h
  exact h3.below
theorem PlT.row {w0 w : World} {B D : Nat} {S : List Sg} {a : Option Addr} {c : Nat} {vs : List Sl} {all all' : List (List UInt8)} {k y : Nat} (h : PlT w0 w B D S a c vs all all' k y) : OwnS w 0 a c vs ∧ vs.length = all.length ∧ all'.length ≤ k := by
  obtain ⟨M, N, g, P, pc, l, h1, h2, h3, h4, h5, h6⟩ := h
  exact ⟨h4.ow, h4.n, h5.al⟩
theorem add_pl {w0 wb w w' : World} {B D : Nat} {S : List Sg} {a : Option Addr} {c : Nat} {vs : List Sl} {all : List (List UInt8)} {k y : Nat} {x : Option Addr} {xc G cap : Nat} {r : List UInt8} (h : PlT w0 wb B D S a c vs all (all ++ [r]) k y) (hb : Below wb.heap.size wb w) (hx : OwnB w wb.heap.size x xc r)
    (hg : w.grownBy w' (blk a)) (ho : OwnS w' 0 (some ⟨G, 0, none⟩) cap (vs ++ [(x, r.length, xc)])) (hloc : blk a = some G ∨ G = w.heap.size) : PlS w0 w' B D S (some ⟨G, 0, none⟩) cap (vs ++ [(x, r.length, xc)]) (all ++ [r]) k y := by
  obtain ⟨M, N, g, P, pc, l, h1, h2, h3, h4, h5, h6⟩ := h
  obtain ⟨g1, hg1⟩ : ∃ g1 : Nat → Tg, g1 = fun b => if b < wb.heap.size then g b else if b < w.heap.size then .o else .p 2 := ⟨_, rfl⟩
  have e1 : ∀ b, b < wb.heap.size → g1 b = g b := fun b hb => by rw [hg1]; exact if_pos hb
  have e2 : ∀ b, wb.heap.size ≤ b → b < w.heap.size → g1 b = .o := fun b h1 h2 => by
    rw [hg1]
    show (if b < wb.heap.size then g b else if b < w.heap.size then Tg.o else Tg.p 2) = _
    rw [if_neg (show ¬ b < wb.heap.size by omega), if_pos h2]
  have hsz := hb.size
  have e3 : g1 w.heap.size = .p 2 := by
    rw [hg1]
    show (if w.heap.size < wb.heap.size then g w.heap.size else if w.heap.size < w.heap.size then Tg.o else Tg.p 2) = _
    rw [if_neg (show ¬ w.heap.size < wb.heap.size by omega), if_neg (Nat.lt_irrefl _)]
  have halt : ∀ j, blk a = some j → j < wb.heap.size := fun j hj => (h4.ow.lt j hj).2
  have hst : St wb w' g g1 (fun t => t.of 2) := ⟨hg.os.trans hb.os, hg.tape.trans hb.tape, hg.output.trans hb.output, Nat.le_trans hsz hg.size, fun j hj hn => (hg.block j (by omega) (fun e => hn (by rw [h4.ga j e.symm]; rfl))).trans (hb.block j hj), e1⟩
  refine ⟨M, N, g1, P, pc, l, h1.keep hst (fun t q1 q2 => by cases t <;> simp [Tg.of] at q1 q2 <;> omega), h2.st hst (by omega), h3.st2 hst (fun e => e), ⟨ho, fun j hj => ?_, by simp [h4.n], fun j v r' hv hr' => ?_⟩, h5, h6⟩
  · simp [blk] at hj
    subst hj
    rcases hloc with q | q
    · rw [e1 _ (halt _ q)]; exact h4.ga _ q
    · rw [q]; exact e3
  · by_cases hj : j < vs.length
    · rw [List.getElem?_append_left hj] at hv
      rw [List.getElem?_append_left (by rw [← h4.n]; exact hj)] at hr'
      obtain ⟨p, b, q⟩ := h4.at' j v r' hv hr'
      exact ⟨p, b.same9 (fun i hi => hst.block i (q i hi).1 (by rw [(q i hi).2]; exact fun e => e)), fun i hi => ⟨Nat.lt_of_lt_of_le (q i hi).1 hst.size, (e1 i (q i hi).1).trans (q i hi).2⟩⟩
    · have hj2 : j = vs.length := by
        have := (List.getElem?_eq_some_iff.1 hv).1
        simp at this
        omega
      subst hj2
      rw [List.getElem?_append_right (Nat.le_refl _), Nat.sub_self] at hv
      rw [h4.n, List.getElem?_append_right (Nat.le_refl _), Nat.sub_self] at hr'
      simp at hv hr'
      subst hv hr'
      refine ⟨rfl, hx.toBs.same9 (fun i hi => hg.block i (hx.lt i hi).2 (fun e => ?_)), fun i hi => ⟨Nat.lt_of_lt_of_le (hx.lt i hi).2 hg.size, e2 i (hx.lt i hi).1 (hx.lt i hi).2⟩⟩
      have q1 := halt i e.symm
      have q2 := (hx.lt i hi).1
      omega
/-- A call as a local of its own. -/
theorem do_new (w : World) (v0 v1 v2 v3 v4 : Value) (W : World) (hW : W = ((((((w.alloc (.cells #[.int .i64 0, .slice none 0 0, .int .i64 0, .int .i64 0, .slice none 0 0] 42)).setCell ⟨w.heap.size, 0, none⟩ v0).setCell ⟨w.heap.size, 1, none⟩ v1).setCell ⟨w.heap.size, 2, none⟩ v2).setCell ⟨w.heap.size, 3, none⟩ v3).setCell ⟨w.heap.size, 4, none⟩ v4)) :
    W.heap[w.heap.size]? = some (.cells #[v0, v1, v2, v3, v4] 42 (0, 0)) ∧ Below w.heap.size w W := by
  obtain ⟨V, hV⟩ : ∃ V, V = w.alloc (.cells #[.int .i64 0, .slice none 0 0, .int .i64 0, .int .i64 0, .slice none 0 0] 42) := ⟨_, rfl⟩
  have hbV : Below w.heap.size w V := by rw [hV]; exact (Below.refl _ _).alloc (Nat.le_refl _) _
  have hres : V.heap[w.heap.size]? = some (.cells #[.int .i64 0, .slice none 0 0, .int .i64 0, .int .i64 0, .slice none 0 0] 42 (0, 0)) := by rw [hV]; exact heap_alloc_new w _
  rw [← hV] at hW
  refine ⟨?_, ?_⟩
  · rw [hW, heap_setCell_same _ _ 4 _ _ _ (heap_setCell_same _ _ 3 _ _ _ (heap_setCell_same _ _ 2 _ _ _ (heap_setCell_same _ _ 1 _ _ _ (heap_setCell_same _ _ 0 _ _ _ hres))))]; rfl
  · rw [hW]
    exact ((((hbV.setCell (Nat.le_refl _) v0).setCell (Nat.le_refl _) v1).setCell (Nat.le_refl _) v2).setCell (Nat.le_refl _) v3).setCell (Nat.le_refl _) v4
#print axioms add_pl
#print axioms do_new
end Go.Proofs.YtneclcihjbkhlaaGreatDoor
end
section
set_option linter.unusedVariables false
set_option maxRecDepth 1000000
namespace Go.Proofs.YtneclcihjbkhlaaGreatDoor
open Go.RowKit Go.Maps

theorem op6 (o : Int) : ∃ r : Nat, r < 6 ∧ IntKind.i64.wrap ((IntKind.u64.wrap o).tmod 6) = (r : Int) := by
  have e : IntKind.u64.wrap o = o % 18446744073709551616 := by simp [IntKind.wrap, IntKind.bits, IntKind.signed]
  have e2 : (IntKind.u64.wrap o).tmod 6 = IntKind.u64.wrap o % 6 := Int.tmod_eq_emod_of_nonneg (by rw [e]; exact Int.emod_nonneg _ (by omega))
  refine ⟨(IntKind.u64.wrap o % 6).toNat, by omega, ?_⟩
  rw [IntKind.wrap_i64, e2]
  omega
set_option maxHeartbeats 8000000 in
theorem play5 (w0 : World) (B D : Nat) (p : Option Addr) (pc : Nat) (l : List D5) (w : World) (hE : EnvS w0) (h : PlS w0 w B D [] none 0 [] [] 0 0) (hp : DR5 w0 p l) (hs : shr5 l = true) :
    Calls Tryz.prog 30 #[.pointer (some ⟨B, 0, none⟩), .slice p l.length pc] w fun e w' => ∃ (a : Option Addr) (c : Nat) (vs : List Sl) (all : List (List UInt8)) (y : Nat) (S : List Sg), e = .returned (.tuple #[.slice a vs.length c, .int .i64 (y : Int)]) ∧ Hid (PlS w0 w' B D S a c vs all l.length y) := by
  have hl80 := (shr5_len hs).1
  have HSH := hide (shr5_len hs).2.2
  have HH := hide h
  have HP := hide hp
  have HE := hide hE
  clear h hp hE hs
  go_enter Tryz.func30, Tryz.ntmps30
  go_wp2_with fail
  go_loopw [6, 7, 14] (fun v s i wr => ∃ (k : Nat) (a : Option Addr) (c : Nat) (vs : List Sl) (all : List (List UInt8)) (y : Nat) (S : List Sg), k ≤ l.length ∧ i = .int .i64 (k : Int) ∧ v = .slice a vs.length c ∧ s = .int .i64 (y : Int) ∧ Hid (PlS w0 wr B D S a c vs all k y)) (fun _ _ i _ => l.length - (intOf i).toNat)
  case atStart => exact ⟨0, none, 0, [], [], 0, [], Nat.zero_le _, rfl, rfl, rfl, HH⟩
  case round =>
    clear HH
    obtain ⟨k, a, c, vs, all, y, S, hk, rfl, rfl, rfl, HI⟩ := hrel
    by_cases hlt : k < l.length
    · have hlt' : (k : Int) < (l.length : Int) := by omega
      obtain ⟨d, hd⟩ : ∃ d, l[k]? = some d := ⟨_, List.getElem?_eq_getElem hlt⟩
      have hdb := (unhide HSH d (List.mem_of_getElem? hd)).1
      obtain ⟨b, off, rfl, hc⟩ := (unhide HP).mem (by intro e; subst e; simp at hd)
      obtain ⟨A, hv, c0, c1, c2, c3, c4⟩ := hc k d hd
      have hlow := (unhide HI).low
      have kk : ∀ {q : Addr} {v : Value}, w0.cell? q = some v → wr.cell? q = some v := fun {q v} e => by
        rw [hlow.cell (World.block_lt_of_cell? w0 _ e)]; exact e
      have k0 := kk c0
      have k1 := kk c1
      have k2 := kk c2
      have k3 := kk c3
      have k4 := kk c4
      obtain ⟨q, hq6, hq⟩ := op6 d.o
      obtain ⟨W, hW⟩ : ∃ W, W = wr.alloc (.cells #[.int .i64 d.o, .slice A.x d.b.length A.c, .int .i64 d.s, .int .i64 d.n, .slice A.y d.k.length A.m] 42) := ⟨_, rfl⟩
      obtain ⟨K, hK⟩ : ∃ K, K = wr.heap.size := ⟨_, rfl⟩
      have hbW : Below wr.heap.size wr W := by rw [hW]; exact (Below.refl _ _).alloc (Nat.le_refl _) _
      have hrW : W.heap[K]? = some (.cells #[.int .i64 d.o, .slice A.x d.b.length A.c, .int .i64 d.s, .int .i64 d.n, .slice A.y d.k.length A.m] 42 (0, 0)) := by rw [hK, hW]; exact heap_alloc_new _ _
      have r0 : W.cell? ⟨K, 0, none⟩ = some (.int .i64 d.o) := cell_of_row _ _ _ _ _ _ hrW
      have r1 : W.cell? ⟨K, 1, none⟩ = some (.slice A.x d.b.length A.c) := cell_of_row _ _ _ _ _ _ hrW
      have r2 : W.cell? ⟨K, 2, none⟩ = some (.int .i64 d.s) := cell_of_row _ _ _ _ _ _ hrW
      have r3 : W.cell? ⟨K, 3, none⟩ = some (.int .i64 d.n) := cell_of_row _ _ _ _ _ _ hrW
      have r4 : W.cell? ⟨K, 4, none⟩ = some (.slice A.y d.k.length A.m) := cell_of_row _ _ _ _ _ _ hrW
      have HW : Hid (PlS w0 W B D S a c vs all k y) := (unhide HI).below hbW
      have HvW : Hid (DV5 W d A) := hv.below (hlow.trans (hbW.mono hlow.size)) (Nat.le_refl _)
      have HV0 := hide hv
      have HBW := hide hbW
      have HRW := hide hrW
      have HKW : Hid (wr.heap.size ≤ K ∧ K < W.heap.size) := ⟨by omega, (Array.getElem?_eq_some_iff.1 hrW).1⟩
      clear kk c0 c1 c2 c3 c4 hc hv hlow hbW hrW hd
      go_upto_region 6 with fail
      rw [← hW, ← hK]
      clear hW hK k0 k1 k2 k3 k4
      have hq' : q = 0 ∨ q = 1 ∨ q = 2 ∨ q = 3 ∨ q = 4 ∨ q = 5 := by omega
      rcases hq' with rfl | rfl | rfl | rfl | rfl | rfl
      · have hq2 : IntKind.i64.wrap ((IntKind.u64.wrap d.o).tmod 6) = 0 := hq
        clear hq
        go_wp2_with fail
        refine (rec5 d A W (unhide HvW) hdb).mono ?_
        rintro e w2 ⟨x, xc, r, rfl, HRR, HO, HB⟩
        have hr : r.length ≤ 200000 := by rw [unhide HRR]; unfold D5.rc; simp; omega
        have HB2 : Hid (Below wr.heap.size wr w2) := (unhide HBW).trans ((unhide HB).mono (unhide HBW).size)
        have HAP := hide (append_pl w0 w2 wr B D S a c vs all k y x xc r (unhide HE) (unhide HI) (unhide HB2) (by omega) ((unhide HO).base (unhide HBW).size) hr)
        clear HO
        go_wp2_with fail
        refine (unhide HAP).mono ?_
        rintro e w3 ⟨m, E, rfl, hcase, HK⟩
        clear HAP
        rcases hcase with ⟨rfl, HT⟩ | ⟨hE0, HT⟩
        · have hr3 : w3.heap[K]? = some (.cells #[.int .i64 d.o, .slice A.x d.b.length A.c, .int .i64 d.s, .int .i64 d.n, .slice A.y d.k.length A.m] 42 (0, 0)) := by
            rw [unhide HK K (unhide HKW).1 (Nat.lt_of_lt_of_le (unhide HKW).2 (unhide HB).size), (unhide HB).block K (unhide HKW).2]
            exact unhide HRW
          have s0 : w3.cell? ⟨K, 0, none⟩ = some (.int .i64 d.o) := cell_of_row _ _ _ _ _ _ hr3
          have s1 : w3.cell? ⟨K, 1, none⟩ = some (.slice A.x d.b.length A.c) := cell_of_row _ _ _ _ _ _ hr3
          have s2 : w3.cell? ⟨K, 2, none⟩ = some (.int .i64 d.s) := cell_of_row _ _ _ _ _ _ hr3
          have s3 : w3.cell? ⟨K, 3, none⟩ = some (.int .i64 d.n) := cell_of_row _ _ _ _ _ _ hr3
          have s4 : w3.cell? ⟨K, 4, none⟩ = some (.slice A.y d.k.length A.m) := cell_of_row _ _ _ _ _ _ hr3
          have HV3 : Hid (DV5 w3 d A) := (unhide HV0).below (unhide HT).low (Nat.le_refl _)
          clear hr3 r0 r1 r2 r3 r4 HK
          go_wp2_with fail
          refine (rec5 d A w3 (unhide HV3) hdb).mono ?_
          rintro e w4 ⟨x4, xc4, r', rfl, HRR4, HO4, HB4⟩
          have her : r' = r := by rw [unhide HRR4, unhide HRR]
          subst her
          obtain ⟨hrow, hn, hal⟩ := (unhide HT).row
          have hba : Below w3.heap.size w3 (w4.alloc (.cells #[.slice x4 r'.length xc4] 39)) := (unhide HB4).alloc (unhide HB4).size _
          have hsrc : (w4.alloc (.cells #[.slice x4 r'.length xc4] 39)).cell? ⟨w4.heap.size, 0, none⟩ = some (.slice x4 r'.length xc4) := cell_of_row _ _ _ _ _ _ (heap_alloc_new w4 _)
          have hvs : vs.length ≤ 1000000 := by simp at hal; omega
          have HRO := hide (hrow.below hba (Nat.le_refl _))
          have HBA := hide hba
          have HSR := hide hsrc
          clear hn hal hrow hba hsrc
          go_wp2_with (at_builtin; refine wp_apps9 _ rfl _ _ rfl a c vs vs.length rfl rfl (unhide HRO) w4.heap.size 1 (x4, r'.length, xc4) rfl (unhide HSR) hvs ?_)
          intro G cap w5 ho5 hg5 hl5
          have H5 : Hid (PlS w0 w5 B D (apS S r') (some ⟨G, 0, none⟩) cap (vs ++ [(x4, r'.length, xc4)]) (all ++ [r']) (k + 1) y) := by
            refine add_pl (w := w4.alloc (.cells #[.slice x4 r'.length xc4] 39)) (unhide HT) (unhide HBA) ((unhide HO4).alloc _) (unhide hg5) (unhide ho5) ?_
            have hsz : (w4.alloc (.cells #[.slice x4 r'.length xc4] 39)).heap.size = w4.heap.size + 1 := Array.size_push _
            rw [hsz]
            exact unhide hl5
          have hln : vs.length + 1 = (vs ++ [(x4, r'.length, xc4)]).length := by simp
          have HLN := hide hln
          clear HRO HBA HSR ho5 hg5 hl5 hln
          go_wp2_with fail
          go_roundw
          case rel => exact ⟨k + 1, some ⟨G, 0, none⟩, cap, vs ++ [(x4, r'.length, xc4)], all ++ [r'], y, _, by omega, by go_num, by rw [← unhide HLN], rfl, H5⟩
          case measure => simp [intOf]; omega
        · have hE1 : (E == 0) = false := by rw [beq_eq_false_iff_ne]; exact hE0
          go_wp2_with fail
          go_roundw
          case rel => exact ⟨k + 1, a, c, vs, all, y, S, by omega, by go_num, rfl, rfl, HT⟩
          case measure => simp [intOf]; omega
      · have hq2 : IntKind.i64.wrap ((IntKind.u64.wrap d.o).tmod 6) = 1 := hq
        clear hq
        go_wp2_with fail
        refine (rec5 d A W (unhide HvW) hdb).mono ?_
        rintro e w2 ⟨x, xc, r, rfl, HRR, HO, HB⟩
        have hr : r.length ≤ 200000 := by rw [unhide HRR]; unfold D5.rc; simp; omega
        have HB2 : Hid (Below wr.heap.size wr w2) := (unhide HBW).trans ((unhide HB).mono (unhide HBW).size)
        have HAP := hide (append_pl w0 w2 wr B D S a c vs all k y x xc r (unhide HE) (unhide HI) (unhide HB2) (by omega) ((unhide HO).base (unhide HBW).size) hr)
        clear HO
        go_wp2_with fail
        refine (unhide HAP).mono ?_
        rintro e w3 ⟨m, E, rfl, hcase, HK⟩
        clear HAP
        rcases hcase with ⟨rfl, HT⟩ | ⟨hE0, HT⟩
        · have hr3 : w3.heap[K]? = some (.cells #[.int .i64 d.o, .slice A.x d.b.length A.c, .int .i64 d.s, .int .i64 d.n, .slice A.y d.k.length A.m] 42 (0, 0)) := by
            rw [unhide HK K (unhide HKW).1 (Nat.lt_of_lt_of_le (unhide HKW).2 (unhide HB).size), (unhide HB).block K (unhide HKW).2]
            exact unhide HRW
          have s0 : w3.cell? ⟨K, 0, none⟩ = some (.int .i64 d.o) := cell_of_row _ _ _ _ _ _ hr3
          have s1 : w3.cell? ⟨K, 1, none⟩ = some (.slice A.x d.b.length A.c) := cell_of_row _ _ _ _ _ _ hr3
          have s2 : w3.cell? ⟨K, 2, none⟩ = some (.int .i64 d.s) := cell_of_row _ _ _ _ _ _ hr3
          have s3 : w3.cell? ⟨K, 3, none⟩ = some (.int .i64 d.n) := cell_of_row _ _ _ _ _ _ hr3
          have s4 : w3.cell? ⟨K, 4, none⟩ = some (.slice A.y d.k.length A.m) := cell_of_row _ _ _ _ _ _ hr3
          have HV3 : Hid (DV5 w3 d A) := (unhide HV0).below (unhide HT).low (Nat.le_refl _)
          clear hr3 r0 r1 r2 r3 r4 HK
          go_wp2_with fail
          refine (rec5 d A w3 (unhide HV3) hdb).mono ?_
          rintro e w4 ⟨x4, xc4, r', rfl, HRR4, HO4, HB4⟩
          have her : r' = r := by rw [unhide HRR4, unhide HRR]
          subst her
          obtain ⟨hrow, hn, hal⟩ := (unhide HT).row
          have hba : Below w3.heap.size w3 (w4.alloc (.cells #[.slice x4 r'.length xc4] 39)) := (unhide HB4).alloc (unhide HB4).size _
          have hsrc : (w4.alloc (.cells #[.slice x4 r'.length xc4] 39)).cell? ⟨w4.heap.size, 0, none⟩ = some (.slice x4 r'.length xc4) := cell_of_row _ _ _ _ _ _ (heap_alloc_new w4 _)
          have hvs : vs.length ≤ 1000000 := by simp at hal; omega
          have HRO := hide (hrow.below hba (Nat.le_refl _))
          have HBA := hide hba
          have HSR := hide hsrc
          clear hn hal hrow hba hsrc
          go_wp2_with (at_builtin; refine wp_apps9 _ rfl _ _ rfl a c vs vs.length rfl rfl (unhide HRO) w4.heap.size 1 (x4, r'.length, xc4) rfl (unhide HSR) hvs ?_)
          intro G cap w5 ho5 hg5 hl5
          have H5 : Hid (PlS w0 w5 B D (apS S r') (some ⟨G, 0, none⟩) cap (vs ++ [(x4, r'.length, xc4)]) (all ++ [r']) (k + 1) y) := by
            refine add_pl (w := w4.alloc (.cells #[.slice x4 r'.length xc4] 39)) (unhide HT) (unhide HBA) ((unhide HO4).alloc _) (unhide hg5) (unhide ho5) ?_
            have hsz : (w4.alloc (.cells #[.slice x4 r'.length xc4] 39)).heap.size = w4.heap.size + 1 := Array.size_push _
            rw [hsz]
            exact unhide hl5
          have hln : vs.length + 1 = (vs ++ [(x4, r'.length, xc4)]).length := by simp
          have HLN := hide hln
          clear HRO HBA HSR ho5 hg5 hl5 hln
          go_wp2_with fail
          go_roundw
          case rel => exact ⟨k + 1, some ⟨G, 0, none⟩, cap, vs ++ [(x4, r'.length, xc4)], all ++ [r'], y, _, by omega, by go_num, by rw [← unhide HLN], rfl, H5⟩
          case measure => simp [intOf]; omega
        · have hE1 : (E == 0) = false := by rw [beq_eq_false_iff_ne]; exact hE0
          go_wp2_with fail
          go_roundw
          case rel => exact ⟨k + 1, a, c, vs, all, y, S, by omega, by go_num, rfl, rfl, HT⟩
          case measure => simp [intOf]; omega
      · have hq2 : IntKind.i64.wrap ((IntKind.u64.wrap d.o).tmod 6) = 2 := hq
        clear hq
        go_wp2_with fail
        refine (rec5 d A W (unhide HvW) hdb).mono ?_
        rintro e w2 ⟨x, xc, r, rfl, HRR, HO, HB⟩
        have hr : r.length ≤ 200000 := by rw [unhide HRR]; unfold D5.rc; simp; omega
        have HB2 : Hid (Below wr.heap.size wr w2) := (unhide HBW).trans ((unhide HB).mono (unhide HBW).size)
        have HAP := hide (append_pl w0 w2 wr B D S a c vs all k y x xc r (unhide HE) (unhide HI) (unhide HB2) (by omega) ((unhide HO).base (unhide HBW).size) hr)
        clear HO
        go_wp2_with fail
        refine (unhide HAP).mono ?_
        rintro e w3 ⟨m, E, rfl, hcase, HK⟩
        clear HAP
        rcases hcase with ⟨rfl, HT⟩ | ⟨hE0, HT⟩
        · have hr3 : w3.heap[K]? = some (.cells #[.int .i64 d.o, .slice A.x d.b.length A.c, .int .i64 d.s, .int .i64 d.n, .slice A.y d.k.length A.m] 42 (0, 0)) := by
            rw [unhide HK K (unhide HKW).1 (Nat.lt_of_lt_of_le (unhide HKW).2 (unhide HB).size), (unhide HB).block K (unhide HKW).2]
            exact unhide HRW
          have s0 : w3.cell? ⟨K, 0, none⟩ = some (.int .i64 d.o) := cell_of_row _ _ _ _ _ _ hr3
          have s1 : w3.cell? ⟨K, 1, none⟩ = some (.slice A.x d.b.length A.c) := cell_of_row _ _ _ _ _ _ hr3
          have s2 : w3.cell? ⟨K, 2, none⟩ = some (.int .i64 d.s) := cell_of_row _ _ _ _ _ _ hr3
          have s3 : w3.cell? ⟨K, 3, none⟩ = some (.int .i64 d.n) := cell_of_row _ _ _ _ _ _ hr3
          have s4 : w3.cell? ⟨K, 4, none⟩ = some (.slice A.y d.k.length A.m) := cell_of_row _ _ _ _ _ _ hr3
          have HV3 : Hid (DV5 w3 d A) := (unhide HV0).below (unhide HT).low (Nat.le_refl _)
          clear hr3 r0 r1 r2 r3 r4 HK
          go_wp2_with fail
          refine (rec5 d A w3 (unhide HV3) hdb).mono ?_
          rintro e w4 ⟨x4, xc4, r', rfl, HRR4, HO4, HB4⟩
          have her : r' = r := by rw [unhide HRR4, unhide HRR]
          subst her
          obtain ⟨hrow, hn, hal⟩ := (unhide HT).row
          have hba : Below w3.heap.size w3 (w4.alloc (.cells #[.slice x4 r'.length xc4] 39)) := (unhide HB4).alloc (unhide HB4).size _
          have hsrc : (w4.alloc (.cells #[.slice x4 r'.length xc4] 39)).cell? ⟨w4.heap.size, 0, none⟩ = some (.slice x4 r'.length xc4) := cell_of_row _ _ _ _ _ _ (heap_alloc_new w4 _)
          have hvs : vs.length ≤ 1000000 := by simp at hal; omega
          have HRO := hide (hrow.below hba (Nat.le_refl _))
          have HBA := hide hba
          have HSR := hide hsrc
          clear hn hal hrow hba hsrc
          go_wp2_with (at_builtin; refine wp_apps9 _ rfl _ _ rfl a c vs vs.length rfl rfl (unhide HRO) w4.heap.size 1 (x4, r'.length, xc4) rfl (unhide HSR) hvs ?_)
          intro G cap w5 ho5 hg5 hl5
          have H5 : Hid (PlS w0 w5 B D (apS S r') (some ⟨G, 0, none⟩) cap (vs ++ [(x4, r'.length, xc4)]) (all ++ [r']) (k + 1) y) := by
            refine add_pl (w := w4.alloc (.cells #[.slice x4 r'.length xc4] 39)) (unhide HT) (unhide HBA) ((unhide HO4).alloc _) (unhide hg5) (unhide ho5) ?_
            have hsz : (w4.alloc (.cells #[.slice x4 r'.length xc4] 39)).heap.size = w4.heap.size + 1 := Array.size_push _
            rw [hsz]
            exact unhide hl5
          have hln : vs.length + 1 = (vs ++ [(x4, r'.length, xc4)]).length := by simp
          have HLN := hide hln
          clear HRO HBA HSR ho5 hg5 hl5 hln
          go_wp2_with fail
          go_roundw
          case rel => exact ⟨k + 1, some ⟨G, 0, none⟩, cap, vs ++ [(x4, r'.length, xc4)], all ++ [r'], y, _, by omega, by go_num, by rw [← unhide HLN], rfl, H5⟩
          case measure => simp [intOf]; omega
        · have hE1 : (E == 0) = false := by rw [beq_eq_false_iff_ne]; exact hE0
          go_wp2_with fail
          go_roundw
          case rel => exact ⟨k + 1, a, c, vs, all, y, S, by omega, by go_num, rfl, rfl, HT⟩
          case measure => simp [intOf]; omega
      · have hq2 : IntKind.i64.wrap ((IntKind.u64.wrap d.o).tmod 6) = 3 := hq
        clear hq
        go_wp2_with fail
        refine (sync_pl w0 W B D S a c vs all k y (unhide HE) (unhide HW) (by omega)).mono ?_
        rintro e w2 ⟨rfl, H2⟩
        have H3 : Hid (PlS w0 w2 B D S a c vs all (k + 1) vs.length) := by rw [(unhide H2).row.2.1]; exact unhide H2
        clear H2
        go_wp2_with fail
        go_roundw
        case rel => exact ⟨k + 1, a, c, vs, all, vs.length, S, by omega, by go_num, rfl, rfl, H3⟩
        case measure => simp [intOf]; omega
      · have hq2 : IntKind.i64.wrap ((IntKind.u64.wrap d.o).tmod 6) = 4 := hq
        clear hq
        go_wp2_with fail
        refine (trim_pl w0 W B D S a c vs all k y d.n (unhide HE) (unhide HW) (by omega)).mono ?_
        rintro e w2 ⟨rfl, H2⟩
        go_wp2_with fail
        go_roundw
        case rel => exact ⟨k + 1, a, c, vs, all, y, _, by omega, by go_num, rfl, rfl, H2⟩
        case measure => simp [intOf]; omega
      · have hq2 : IntKind.i64.wrap ((IntKind.u64.wrap d.o).tmod 6) = 5 := hq
        clear hq
        go_wp2_with fail
        refine (sync_pl w0 W B D S a c vs all k y (unhide HE) (unhide HW) (by omega)).mono ?_
        rintro e w2 ⟨rfl, H2⟩
        have H3 : Hid (PlS w0 w2 B D S a c vs all (k + 1) vs.length) := by rw [(unhide H2).row.2.1]; exact unhide H2
        clear H2
        go_wp2_with fail
        go_roundw
        case rel => exact ⟨k + 1, a, c, vs, all, vs.length, S, by omega, by go_num, rfl, rfl, H3⟩
        case measure => simp [intOf]; omega
    · obtain rfl : k = l.length := by omega
      go_wp2_with fail
      go_ret2
      exact ⟨a, c, vs, all, y, S, rfl, HI⟩
#print axioms play5
end Go.Proofs.YtneclcihjbkhlaaGreatDoor
end
section
set_option linter.unusedVariables false
set_option maxRecDepth 1000000
namespace Go.Proofs.YtneclcihjbkhlaaGreatDoor
open Go.RowKit Go.Maps

theorem BgR.pl {w0 w' : World} {D B : Nat} {z : Int} (h : BgR w0 w' D B z) : PlS w0 w' B D [] none 0 [] [] 0 0 := by
  obtain ⟨g', P, pc, l, h1, h2, h3⟩ := h
  exact ⟨Md.new z, 302, g', P, pc, l, h1, h2, h3, Rws.nil _ _, Pl.start _, by simp, 0, Du.new z, by simp [duN]⟩
theorem Wf.tail {s : Sg} {r : List Sg} (h : Wf (s :: r)) : Wf r :=
  ⟨fun i a b ha hb => h.ch (i + 1) a b ha hb, fun a ha => h.f1 a (List.mem_cons_of_mem _ ha), fun a ha => h.sz a (List.mem_cons_of_mem _ ha)⟩
theorem from_drop (s : Sg) (z : Int) : s.from z = s.recs.drop (max z (s.first : Int) - (s.first : Int)).toNat := by
  unfold Sg.from
  rcases Nat.le_total (max z (s.first : Int) - (s.first : Int)).toNat s.recs.length with h | h
  · rw [Nat.min_eq_left h]
  · rw [Nat.min_eq_right h, List.drop_of_length_le (Nat.le_refl _), List.drop_of_length_le h]
theorem frS_eq : ∀ (S : List Sg) (z : Int), Wf S → frS S z = (S.flatMap (·.recs)).drop (max z (fsS S : Int) - (fsS S : Int)).toNat
  | [], z, _ => by simp [frS]
  | s :: r, z, wf => by
    have ih := frS_eq r z wf.tail
    have e1 : frS (s :: r) z = s.from z ++ frS r z := rfl
    have e2 : fsS (s :: r) = s.first := rfl
    rw [e1, e2, ih, from_drop, List.flatMap_cons, List.drop_append]
    congr 1
    cases r with
    | nil => simp
    | cons t q =>
      have e3 : fsS (t :: q) = s.first + s.recs.length := (wf.ch 0 s t rfl rfl).1
      rw [e3]
      congr 1
      omega
#print axioms frS_eq
end Go.Proofs.YtneclcihjbkhlaaGreatDoor
end
section
set_option linter.unusedVariables false
set_option maxRecDepth 1000000
namespace Go.Proofs.YtneclcihjbkhlaaGreatDoor
open Go.RowKit Go.Maps

theorem first_pl (w0 w : World) (B D : Nat) (S : List Sg) (a : Option Addr) (c : Nat) (vs : List Sl) (all : List (List UInt8)) (k y : Nat) (h : PlS w0 w B D S a c vs all k y) (hk : k ≤ 100) :
    Calls Tryz.prog 32 #[.pointer (some ⟨B, 0, none⟩)] w fun e w' => e = .returned (.int .i64 (fsS S : Int)) ∧ Hid (PlS w0 w' B D S a c vs all k y) ∧ Hid (Below w.heap.size w w') := by
  obtain ⟨M, N, g, P, pc, l, h1, h2, h3, h4, h5, h6⟩ := id h
  exact (first5 g B D P pc l S w h1 (h5.ok hk)).mono fun e w' q => ⟨q.1, h.below (unhide q.2), q.2⟩
theorem next_pl (w0 w : World) (B D : Nat) (S : List Sg) (a : Option Addr) (c : Nat) (vs : List Sl) (all : List (List UInt8)) (k y : Nat) (h : PlS w0 w B D S a c vs all k y) (hk : k ≤ 100) :
    Calls Tryz.prog 31 #[.pointer (some ⟨B, 0, none⟩)] w fun e w' => e = .returned (.int .i64 (nxS S : Int)) ∧ Hid (PlS w0 w' B D S a c vs all k y) ∧ Hid (Below w.heap.size w w') := by
  obtain ⟨M, N, g, P, pc, l, h1, h2, h3, h4, h5, h6⟩ := id h
  exact (next5 g B D P pc l S w h1 (h5.ok hk)).mono fun e w' q => ⟨q.1, h.below (unhide q.2), q.2⟩
theorem segs_pl (w0 w : World) (B D : Nat) (S : List Sg) (a : Option Addr) (c : Nat) (vs : List Sl) (all : List (List UInt8)) (k y : Nat) (h : PlS w0 w B D S a c vs all k y) :
    Calls Tryz.prog 76 #[.pointer (some ⟨B, 0, none⟩)] w fun e w' => e = .returned (.int .i64 (S.length : Int)) ∧ Hid (PlS w0 w' B D S a c vs all k y) ∧ Hid (Below w.heap.size w w') := by
  obtain ⟨M, N, g, P, pc, l, h1, h2, h3, h4, h5, h6⟩ := id h
  exact (segs5 g B D P pc l S w h1).mono fun e w' q => ⟨q.1, h.below (unhide q.2), q.2⟩
theorem read_pl (w0 w : World) (B D : Nat) (S : List Sg) (a : Option Addr) (c : Nat) (vs : List Sl) (all : List (List UInt8)) (k y : Nat) (z : Int) (h : PlS w0 w B D S a c vs all k y) (hk : k ≤ 100) (hz0 : -9223372036854775808 ≤ z) (hz : z ≤ 9223372036854775807) :
    Calls Tryz.prog 34 #[.pointer (some ⟨B, 0, none⟩), .int .i64 z] w fun e w' => ∃ a' c' vs', e = .returned (.slice a' vs'.length c') ∧ Hid (OwnS w' w.heap.size a' c' vs') ∧ Hid (Pays w' w.heap.size vs' (frS S z)) ∧ Hid (PlS w0 w' B D S a c vs all k y) ∧ Hid (Below w.heap.size w w') := by
  obtain ⟨M, N, g, P, pc, l, h1, h2, h3, h4, h5, h6⟩ := id h
  refine (read5 g B D P pc l S z w h1 (h5.ok hk) hz0 hz).mono ?_
  rintro e w' ⟨a', c', vs', q1, q2, q3, q4⟩
  exact ⟨a', c', vs', q1, q2, q3, h.below (unhide q4), q4⟩
theorem PlT.facts {w0 w : World} {B D : Nat} {S : List Sg} {a : Option Addr} {c : Nat} {vs : List Sl} {all all' : List (List UInt8)} {k y : Nat} (h : PlT w0 w B D S a c vs all all' k y) :
    nxS S = all'.length + 1 ∧ 1 ≤ fsS S ∧ fsS S ≤ all'.length + 1 ∧ S.flatMap (·.recs) = all'.drop (fsS S - 1) ∧ Wf S ∧ all'.length ≤ k ∧ S.length ≤ k ∧ vs.length = all.length := by
  obtain ⟨M, N, g, P, pc, l, h1, h2, h3, h4, h5, h6⟩ := h
  exact ⟨h5.nx, fs_pos h5.wf, h5.fle, h5.rc, h5.wf, h5.al, h5.sl, h4.n⟩
theorem lw_of {w0 w : World} (h : Below w0.heap.size w0 w) : LW w0 w (fun _ => .o) := ⟨h, fun _ _ => rfl⟩
theorem PlT.sr {w0 w : World} {B D : Nat} {S : List Sg} {a : Option Addr} {c : Nat} {vs : List Sl} {all all' : List (List UInt8)} {k y : Nat} (h : PlT w0 w B D S a c vs all all' k y) : SR w a vs all := by
  obtain ⟨M, N, g, P, pc, l, h1, h2, h3, h4, h5, h6⟩ := h
  refine ⟨h4.n, fun hne => ?_, fun i p hp => ?_⟩
  · obtain ⟨G, rfl, _, _, _, hc⟩ := h4.ow.some (List.length_pos_iff.2 hne)
    exact ⟨G, 0, rfl, fun i x hx => by rw [Nat.zero_add]; exact hc i x hx⟩
  · obtain ⟨v, hv⟩ : ∃ v, vs[i]? = some v := ⟨_, List.getElem?_eq_getElem (by rw [h4.n]; exact (List.getElem?_eq_some_iff.1 hp).1)⟩
    obtain ⟨q1, q2, q3⟩ := h4.at' i v p hv hp
    exact ⟨v.1, v.2.2, by rw [hv, ← q1], q2.row⟩
theorem OwnS.down {w : World} {base : Nat} {a : Option Addr} {cap : Nat} {l : List Sl} (h : OwnS w base a cap l) : OwnS w 0 a cap l := by
  refine ⟨h.1, ?_⟩
  rcases h.2 with hn | ⟨b, cap, cur, hv, hbb, rest⟩
  · exact .inl hn
  · exact .inr ⟨b, cap, cur, hv, Nat.zero_le _, rest⟩
/-- A row that is cut at its front. -/
theorem SR.drop {w : World} {a a' : Option Addr} {vs : List Sl} {ps : List (List UInt8)} (h : SR w a vs ps) (k : Nat) (hr : vs.drop k ≠ [] → ∃ b off, a' = some ⟨b, off, none⟩ ∧ ∀ (t : Nat) (x : Sl), (vs.drop k)[t]? = some x → w.cell? ⟨b, off + t, none⟩ = some (.slice x.1 x.2.1 x.2.2)) : SR w a' (vs.drop k) (ps.drop k) := by
  refine ⟨by rw [List.length_drop, List.length_drop, h.len], hr, fun i p hp => ?_⟩
  rw [List.getElem?_drop] at hp
  obtain ⟨c, cap, h1, h2⟩ := h.pay (k + i) p hp
  exact ⟨c, cap, by rw [List.getElem?_drop]; exact h1, h2⟩
theorem fs_trim : ∀ (S : List Sg) (z : Int), Wf S → fsS S ≤ fsS (S.drop (trK S z)) ∧ (fsS (S.drop (trK S z)) : Int) ≤ max z (fsS S : Int) ∧ (S ≠ [] → S.drop (trK S z) ≠ [])
  | [], z, _ => by refine ⟨by simp [trK], by simp [trK]; omega, fun h => absurd rfl h⟩
  | [a], z, _ => by refine ⟨by simp [trK], by simp [trK]; omega, fun h => by simp [trK]⟩
  | a :: t :: r, z, wf => by
    have ih := fs_trim (t :: r) z wf.tail
    have e1 := (wf.ch 0 a t rfl rfl).1
    have e2 : fsS (a :: t :: r) = a.first := rfl
    have e3 : fsS (t :: r) = t.first := rfl
    unfold Sg.next at e1
    by_cases hz : (t.first : Int) ≤ z
    · have e4 : trK (a :: t :: r) z = trK (t :: r) z + 1 := by show (if (t.first : Int) ≤ z then _ else _) = _; rw [if_pos hz]
      rw [e4, List.drop_succ_cons, e2]
      rw [e3] at ih
      exact ⟨by omega, by omega, fun _ => ih.2.2 (by simp)⟩
    · have e4 : trK (a :: t :: r) z = 0 := by show (if (t.first : Int) ≤ z then _ else _) = _; rw [if_neg hz]
      rw [e4, List.drop_zero]
      exact ⟨Nat.le_refl _, by omega, fun h => h⟩
/-- What Read gives from the first on. -/
theorem frS_all {S : List Sg} (wf : Wf S) (z : Int) (hz : z ≤ 1) : frS S z = S.flatMap (·.recs) := by
  rw [frS_eq S z wf]
  have := fs_pos wf
  have e : (max z (fsS S : Int) - (fsS S : Int)).toNat = 0 := by omega
  rw [e, List.drop_zero]
#print axioms fs_trim
#print axioms PlT.sr
end Go.Proofs.YtneclcihjbkhlaaGreatDoor
end
section
set_option linter.unusedVariables false
set_option maxRecDepth 1000000
namespace Go.Proofs.YtneclcihjbkhlaaGreatDoor
open Go.RowKit Go.Maps

theorem Cutd.mem {S S' : List Sg} {q : Nat} (h : Cutd S q S') {t : Sg} (ht : t ∈ S') : ∃ s ∈ S, ∃ m, t.first = s.first ∧ t.recs = s.recs.take m := by
  rcases h with ⟨_, rfl⟩ | ⟨S0, s, rfl, h⟩
  · cases ht
  · rcases h with ⟨rfl, _, _⟩ | ⟨m, _, _, rfl⟩
    · exact ⟨t, by simp [ht], t.recs.length, rfl, by rw [List.take_length]⟩
    · rcases List.mem_append.1 ht with e | e
      · exact ⟨t, by simp [e], t.recs.length, rfl, by rw [List.take_length]⟩
      · rw [List.mem_singleton.1 e]
        exact ⟨s, by simp, m, rfl, rfl⟩
theorem flN_take (rs : List (List UInt8)) (n m : Nat) : flN n (rs.take m) ≤ flN n rs := by
  have : flN n rs = flN n (rs.take m ++ rs.drop m) := by rw [List.take_append_drop]
  rw [this, flN_app]
  omega
/-- A log in memory whose disk has crashed; what Open will find. -/
def CrS (w0 w : World) (B D : Nat) (S S' : List Sg) (a : Option Addr) (c : Nat) (vs : List Sl) (all al' : List (List UInt8)) (K : Nat) : Prop :=
  ∃ M N g P pc l rest, LgS w g B D P pc l S ∧ DK w g 0 D M N ∧ LW w0 w g ∧ Rws w g a c vs all ∧ N ≤ K ∧ SOk S ∧ HasT M.seen S' rest ∧ Stop rest ∧ Inv M ∧ (∀ s ∈ S', (M.readB (nmS s.first)).length ≤ 70000) ∧ (∀ s ∈ S', Fit s.first s.recs ∧ flN s.first s.recs ≤ 70000 ∧ s.first ≤ 9223372036854775807) ∧ Wf S' ∧ ∀ M2, Has M2.seen S' → Pl M2 S' al' 100
/-- A log that was opened. -/
def OpS (w0 w : World) (B D : Nat) (S : List Sg) (a : Option Addr) (c : Nat) (vs : List Sl) (all al' : List (List UInt8)) (K : Nat) : Prop :=
  ∃ M N g P pc l, LgS w g B D P pc l S ∧ DK w g 0 D M N ∧ LW w0 w g ∧ Rws w g a c vs all ∧ N ≤ K ∧ Pl M S al' 100 ∧ (∃ q, Du M S q ∧ nxS S ≤ duN S q) ∧ M.pend = []
theorem of0o : ¬ (Tg.o).of 0 := fun e => e
theorem of0p : ¬ (Tg.p 2).of 0 := fun e => by simp [Tg.of] at e
theorem of01 (t : Tg) (h : t.of 1) : ¬ t.of 0 := fun e => by cases t <;> simp [Tg.of] at h e <;> omega
/-- What a crash leaves, whatever was kept. -/
theorem du_cr {M : Md} {S : List Sg} {q : Nat} {al : List (List UInt8)} {k : Nat} (hd : Du M S q) (hp : Pl M S al k) (hk : k ≤ 100) (kl : List Bool) (z : Int) : ∃ S' rest, HasT (M.crash kl z).seen S' rest ∧ Stop rest ∧ Inv (M.crash kl z) ∧ (∀ s ∈ S', ((M.crash kl z).readB (nmS s.first)).length ≤ 70000) ∧ (∀ s ∈ S', Fit s.first s.recs ∧ flN s.first s.recs ≤ 70000 ∧ s.first ≤ 9223372036854775807) ∧ (∀ M2, Has M2.seen S' → Pl M2 S' (al.take (nxS S' - 1)) k) ∧ duN S q ≤ nxS S' ∧ nxS S' ≤ nxS S ∧ fsS S' = fsS S ∧ Cutd S q S' := by
  obtain ⟨S', rest, c1, c2, c3, c4, c5⟩ := hd.crash (hp.nice hk) kl z
  have hq : ∀ S0 s, S = S0 ++ [s] → q ≤ s.recs.length := fun S0 s e => (hd.lg S0 s e).1
  obtain ⟨f1, f2, f3, f4, f5, f6⟩ := c1.facts hq hp.wf
  refine ⟨S', rest, c2, c3, c4, fun t ht => ?_, fun t ht => ?_, fun M2 h2 => hp.crashed c1 hq h2 hk, f1, f2, f3, c1⟩
  · obtain ⟨s, hs, m, e1, e2⟩ := c1.mem ht
    rw [e1]
    unfold Md.readB
    split
    · unfold fget
      cases hb : (M.crash kl z).seen (nmS s.first) with
      | none => simp
      | some b => exact c5 s hs b hb
    · simp
  · obtain ⟨s, hs, m, e1, e2⟩ := c1.mem ht
    rw [e1, e2]
    exact ⟨(hd.ft s hs).take m, Nat.le_trans (flN_take _ _ _) (hd.sm s hs), (hp.nice hk).le s hs⟩
theorem Pl.more {M : Md} {S : List Sg} {all : List (List UInt8)} {k k' : Nat} (h : Pl M S all k) (hk : k ≤ k') : Pl M S all k' := by
  have h1 := h.al
  have h2 := h.sz
  have h3 := h.sl
  have h4 : szB k ≤ szB k' := by unfold szB; exact Nat.mul_le_mul_right _ hk
  exact { wf := h.wf, th := h.th, nx := h.nx, rc := h.rc, al := by omega, rl := h.rl, sz := by omega, sl := by omega }
theorem crash_pl (w0 w : World) (B D : Nat) (S : List Sg) (a : Option Addr) (c : Nat) (vs : List Sl) (all : List (List UInt8)) (k y : Nat) (kp : Option Addr) (kl : List Bool) (kc KL : Nat) (z : Int) (h : PlS w0 w B D S a c vs all k y) (hk : k ≤ 90) (HKL : Hid (KL = kl.length)) (hb : BRow w kp kl) (hkm : KL ≤ maxLen) :
    Calls Tryz.prog 19 #[.pointer (some ⟨D, 0, none⟩), .slice kp KL kc, .int .i64 z] w fun e w' => e = .returned (.int .i64 0) ∧ ∃ S', Hid (CrS w0 w' B D S S' a c vs all (all.take (nxS S' - 1)) 600) ∧ Hid (y < nxS S' ∧ nxS S' ≤ all.length + 1 ∧ fsS S' = fsS S) := by
  obtain ⟨M, N, g, P, pc, l, h1, h2, h3, h4, h5, h6, q, hdu, hy⟩ := h
  refine (crash_k g 0 D M N kp kl kc KL z w h2 (by omega) HKL hb hkm).mono ?_
  rintro e w' ⟨rfl, g', r1, r2⟩
  obtain ⟨S', rest, d1, d2, d3, d4, d5, d6, d7, d8, d9, d10⟩ := du_cr hdu h5 (by omega) kl z
  refine ⟨rfl, S', ⟨_, N + 1, g', P, pc, l, rest, h1.keep r2 of01, r1, h3.st r2, h4.st r2 of0o of0p, by omega, h5.ok (by omega), d1, d2, d3, d4, d5, d10.wf h5.wf, fun M2 hm => (d6 M2 hm).more (by omega)⟩, ?_⟩
  have := h5.nx
  exact ⟨by omega, by omega, d9⟩
theorem CrS.below {w0 w w' : World} {B D : Nat} {S S' : List Sg} {a : Option Addr} {c : Nat} {vs : List Sl} {all al' : List (List UInt8)} {K : Nat} (h : CrS w0 w B D S S' a c vs all al' K) (hb : Below w.heap.size w w') : CrS w0 w' B D S S' a c vs all al' K := by
  obtain ⟨M, N, g, P, pc, l, rest, h1, h2, h3, h4, h5⟩ := h
  exact ⟨M, N, g, P, pc, l, rest, h1.below hb, h2.below hb, h3.bel hb, h4.st (St.ofBelow g (fun _ => False) hb) (fun e => e) (fun e => e), h5⟩
theorem OpS.below {w0 w w' : World} {B D : Nat} {S : List Sg} {a : Option Addr} {c : Nat} {vs : List Sl} {all al' : List (List UInt8)} {K : Nat} (h : OpS w0 w B D S a c vs all al' K) (hb : Below w.heap.size w w') : OpS w0 w' B D S a c vs all al' K := by
  obtain ⟨M, N, g, P, pc, l, h1, h2, h3, h4, h5⟩ := h
  exact ⟨M, N, g, P, pc, l, h1.below hb, h2.below hb, h3.bel hb, h4.st (St.ofBelow g (fun _ => False) hb) (fun e => e) (fun e => e), h5⟩
theorem first_cr (w0 w : World) (B D : Nat) (S S' : List Sg) (a : Option Addr) (c : Nat) (vs : List Sl) (all al' : List (List UInt8)) (K : Nat) (h : CrS w0 w B D S S' a c vs all al' K) :
    Calls Tryz.prog 32 #[.pointer (some ⟨B, 0, none⟩)] w fun e w' => e = .returned (.int .i64 (fsS S : Int)) ∧ Hid (CrS w0 w' B D S S' a c vs all al' K) := by
  obtain ⟨M, N, g, P, pc, l, rest, h1, h2, h3, h4, h5, h6, _⟩ := id h
  exact (first5 g B D P pc l S w h1 h6).mono fun e w' q => ⟨q.1, h.below (unhide q.2)⟩
theorem open_cr (w0 w : World) (B D : Nat) (S S' : List Sg) (a : Option Addr) (c : Nat) (vs : List Sl) (all al' : List (List UInt8)) (K : Nat) (hE : EnvS w0) (h : CrS w0 w B D S S' a c vs all al' K) (hK : K ≤ 1000) :
    Calls Tryz.prog 13 #[.pointer (some ⟨D, 0, none⟩)] w fun e w' => ∃ B', e = .returned (.tuple #[.pointer (some ⟨B', 0, none⟩), .int .i64 0]) ∧ Hid (OpS w0 w' B' D S' a c vs all al' (K + 302)) := by
  obtain ⟨M, N, g, P, pc, l, rest, h1, h2, h3, h4, h5, h6, d1, d2, d3, d4, d5, wf, d6⟩ := h
  have hD : ∀ b, Du (gaC (M, S', b)).flush S' (match S'.getLast? with | some s => s.recs.length | none => 0) := fun b => open_du d1 d3 wf (fun s hs => (d5 s hs).1) (fun s hs => (d5 s hs).2.2) (fun s hs => (d5 s hs).2.1)
  have hP := d6 _ (hD true).sn
  have hok := hP.ok (Nat.le_refl _)
  have hom := open_math d1 wf (fun s hs => (d5 s hs).1) d2 hok (by have := hP.sl; omega) (fun s hs => by have := d4 s hs; omega)
  refine (open5 w0 g D M N w hE h3 h2 (by omega) (fun n hn => ?_) (fun L hL => ⟨(hom L hL).2.1, (hom L hL).2.2.1, (hom L hL).2.2.2.1, (hom L hL).2.2.2.2.1⟩)).mono ?_
  · obtain ⟨s, hs, e⟩ := d1.no n hn
    rw [e, nmS_len _ (d5 s hs).2.2]
    omega
  · rintro e w' ⟨B', rfl, L, g', P', pc', l', q1, q2, q3, q4⟩
    obtain ⟨b, hb⟩ := (hom L q1).2.2.2.2.2
    rw [hb] at q2 q3
    exact ⟨B', rfl, _, N + 302, g', P', pc', l', q2, q3, h3.st2 q4 x01o, h4.st q4 x01o x01p, by omega, d6 _ (hD b).sn, ⟨_, hD b, Nat.le_of_eq (duN_all S').symm⟩, rfl⟩
theorem first_op (w0 w : World) (B D : Nat) (S : List Sg) (a : Option Addr) (c : Nat) (vs : List Sl) (all al' : List (List UInt8)) (K : Nat) (h : OpS w0 w B D S a c vs all al' K) :
    Calls Tryz.prog 32 #[.pointer (some ⟨B, 0, none⟩)] w fun e w' => e = .returned (.int .i64 (fsS S : Int)) ∧ Hid (OpS w0 w' B D S a c vs all al' K) ∧ Hid (Below w.heap.size w w') := by
  obtain ⟨M, N, g, P, pc, l, h1, h2, h3, h4, h5, h6, h7⟩ := id h
  exact (first5 g B D P pc l S w h1 (h6.ok (Nat.le_refl _))).mono fun e w' q => ⟨q.1, h.below (unhide q.2), q.2⟩
theorem next_op (w0 w : World) (B D : Nat) (S : List Sg) (a : Option Addr) (c : Nat) (vs : List Sl) (all al' : List (List UInt8)) (K : Nat) (h : OpS w0 w B D S a c vs all al' K) :
    Calls Tryz.prog 31 #[.pointer (some ⟨B, 0, none⟩)] w fun e w' => e = .returned (.int .i64 (nxS S : Int)) ∧ Hid (OpS w0 w' B D S a c vs all al' K) ∧ Hid (Below w.heap.size w w') := by
  obtain ⟨M, N, g, P, pc, l, h1, h2, h3, h4, h5, h6, h7⟩ := id h
  exact (next5 g B D P pc l S w h1 (h6.ok (Nat.le_refl _))).mono fun e w' q => ⟨q.1, h.below (unhide q.2), q.2⟩
theorem read_op (w0 w : World) (B D : Nat) (S : List Sg) (a : Option Addr) (c : Nat) (vs : List Sl) (all al' : List (List UInt8)) (K : Nat) (h : OpS w0 w B D S a c vs all al' K) (z : Int) (hz0 : -9223372036854775808 ≤ z) (hz : z ≤ 9223372036854775807) :
    Calls Tryz.prog 34 #[.pointer (some ⟨B, 0, none⟩), .int .i64 z] w fun e w' => ∃ a' c' vs', e = .returned (.slice a' vs'.length c') ∧ Hid (OwnS w' w.heap.size a' c' vs') ∧ Hid (Pays w' w.heap.size vs' (frS S z)) ∧ Hid (OpS w0 w' B D S a c vs all al' K) ∧ Hid (Below w.heap.size w w') := by
  obtain ⟨M, N, g, P, pc, l, h1, h2, h3, h4, h5, h6, h7⟩ := id h
  refine (read5 g B D P pc l S z w h1 (h6.ok (Nat.le_refl _)) hz0 hz).mono ?_
  rintro e w' ⟨a', c', vs', q1, q2, q3, q4⟩
  exact ⟨a', c', vs', q1, q2, q3, h.below (unhide q4), q4⟩
theorem OpS.facts {w0 w : World} {B D : Nat} {S : List Sg} {a : Option Addr} {c : Nat} {vs : List Sl} {all al' : List (List UInt8)} {K : Nat} (h : OpS w0 w B D S a c vs all al' K) : nxS S = al'.length + 1 ∧ 1 ≤ fsS S ∧ fsS S ≤ al'.length + 1 ∧ S.flatMap (·.recs) = al'.drop (fsS S - 1) ∧ Wf S ∧ al'.length ≤ 100 ∧ vs.length = all.length ∧ OwnS w 0 a c vs ∧ Below w0.heap.size w0 w := by
  obtain ⟨M, N, g, P, pc, l, h1, h2, h3, h4, h5, h6, h7⟩ := h
  exact ⟨h6.nx, fs_pos h6.wf, h6.fle, h6.rc, h6.wf, h6.al, h4.n, h4.ow, h3.below⟩
theorem Rws.sr {w : World} {g : Nat → Tg} {a : Option Addr} {c : Nat} {vs : List Sl} {all : List (List UInt8)} (h4 : Rws w g a c vs all) : SR w a vs all := by
  refine ⟨h4.n, fun hne => ?_, fun i p hp => ?_⟩
  · obtain ⟨G, rfl, _, _, _, hc⟩ := h4.ow.some (List.length_pos_iff.2 hne)
    exact ⟨G, 0, rfl, fun i x hx => by rw [Nat.zero_add]; exact hc i x hx⟩
  · obtain ⟨v, hv⟩ : ∃ v, vs[i]? = some v := ⟨_, List.getElem?_eq_getElem (by rw [h4.n]; exact (List.getElem?_eq_some_iff.1 hp).1)⟩
    obtain ⟨q1, q2, q3⟩ := h4.at' i v p hv hp
    exact ⟨v.1, v.2.2, by rw [hv, ← q1], q2.row⟩
theorem OpS.sr {w0 w : World} {B D : Nat} {S : List Sg} {a : Option Addr} {c : Nat} {vs : List Sl} {all al' : List (List UInt8)} {K : Nat} (h : OpS w0 w B D S a c vs all al' K) : SR w a vs all := by
  obtain ⟨M, N, g, P, pc, l, h1, h2, h3, h4, h5, h6, h7⟩ := h
  exact h4.sr
#print axioms open_cr
#print axioms crash_pl
end Go.Proofs.YtneclcihjbkhlaaGreatDoor
end
section
set_option linter.unusedVariables false
set_option maxRecDepth 1000000
namespace Go.Proofs.YtneclcihjbkhlaaGreatDoor
open Go.RowKit Go.Maps

theorem FM.retag9 {w : World} {g g2 : Nat → Tg} {tr : Nm → Tg} {bm cnt : Nat} {f : Files} (h : FM w g tr bm f cnt) (hg : ∀ b n, g b = tr n → g2 b = g b) : FM w g2 tr bm f cnt := by
  obtain ⟨D, h1, h2, h3⟩ := h
  refine ⟨D, h1, h2, fun n => ?_⟩
  rcases h3 n with h | ⟨l, x, c, q1, q2, q3, q4, q5⟩
  · exact .inl h
  · exact .inr ⟨l, x, c, q1, q2, q3, q4, fun b hb => (hg b n (q5 b hb)).trans (q5 b hb)⟩
theorem DS.retag9 {w : World} {g g2 : Nat → Tg} {i : Nat} {J : DJ} {M : Md} (h : DS w g i J M) (hg : ∀ b, (g b).of i → g2 b = g b) : DS w g2 i J M := by
  have k : ∀ b t, g b = t → t.of i → g2 b = t := fun b t e ht => (hg b (by rw [e]; exact ht)).trans e
  obtain ⟨l, l1, l2, l3⟩ := h.pd
  exact ⟨h.dsk, k _ _ h.gD rfl, k _ _ h.gL rfl, k _ _ h.gS rfl, k _ _ h.gK rfl, fun b hb => k _ _ (h.gP b hb) rfl, h.fl.retag9 (fun b n e => hg b (by rw [e]; rfl)), h.fs.retag9 (fun b n e => hg b (by rw [e]; rfl)), h.pk, l, l1, l2, fun t ht => ⟨(l3 t ht).1, fun b hb => ⟨((l3 t ht).2 b hb).1, k _ _ ((l3 t ht).2 b hb).2 rfl⟩⟩⟩
theorem DK.retag9 {w : World} {g g2 : Nat → Tg} {i D : Nat} {M : Md} {N : Nat} (h : DK w g i D M N) (hg : ∀ b, (g b).of i → g2 b = g b) : DK w g2 i D M N := by
  obtain ⟨J, h1, h2, h3⟩ := h
  exact ⟨J, h1.retag9 hg, h2, h3⟩
/-- A log in memory, and its disk, on which Open will find the same. -/
def CrT (w0 w : World) (A D : Nat) (S : List Sg) (K : Nat) : Prop :=
  ∃ M N g gA P pc l al, LgS w gA A D P pc l S ∧ (∀ b, (gA b).of 1 → g b = .o) ∧ DK w g 0 D M N ∧ LW w0 w g ∧ N ≤ K ∧ HasT M.seen S [] ∧ Inv M ∧ (∀ s ∈ S, Fit s.first s.recs ∧ flN s.first s.recs ≤ 70000 ∧ s.first ≤ 9223372036854775807) ∧ Pl M S al 100
/-- Two logs that have the same. -/
def OpT (w0 w : World) (A B D : Nat) (S : List Sg) : Prop :=
  ∃ g gA P pc l P' pc' l', LgS w gA A D P pc l S ∧ LgS w g B D P' pc' l' S ∧ LW w0 w g ∧ SOk S
theorem OpT.below {w0 w w' : World} {A B D : Nat} {S : List Sg} (h : OpT w0 w A B D S) (hb : Below w.heap.size w w') : OpT w0 w' A B D S := by
  obtain ⟨g, gA, P, pc, l, P', pc', l', h1, h2, h3, h4⟩ := h
  exact ⟨g, gA, P, pc, l, P', pc', l', h1.below hb, h2.below hb, h3.bel hb, h4⟩
theorem Pl.on {M M2 : Md} {S : List Sg} {al : List (List UInt8)} {k : Nat} (h : Pl M S al k) (h2 : Has M2.seen S) : Pl M2 S al k :=
  { h with th := fun s hs => ⟨by rw [h2.mem hs]; rfl, (h.th s hs).2⟩ }
theorem crash_op (w0 w : World) (B D : Nat) (S : List Sg) (a : Option Addr) (c : Nat) (vs : List Sl) (all al' : List (List UInt8)) (K : Nat) (h : OpS w0 w B D S a c vs all al' K) (hK : K ≤ 1300) :
    Calls Tryz.prog 19 #[.pointer (some ⟨D, 0, none⟩), .slice none 0 0, .int .i64 0] w fun e w' => e = .returned (.int .i64 0) ∧ Hid (CrT w0 w' B D S (K + 1)) := by
  obtain ⟨M, N, g, P, pc, l, h1, h2, h3, h4, h5, h6, ⟨q, hd, _⟩, hp⟩ := h
  obtain ⟨gA, hgA⟩ : ∃ gA : Nat → Tg, gA = fun b => if b < w.heap.size then g b else .o := ⟨_, rfl⟩
  have eA : ∀ b, b < w.heap.size → gA b = g b := fun b hb => by rw [hgA]; exact if_pos hb
  have eB : ∀ b, ¬ b < w.heap.size → gA b = .o := fun b hb => by rw [hgA]; exact if_neg hb
  have hA : LgS w gA B D P pc l S := h1.keep (X := fun _ => False) ⟨rfl, rfl, rfl, Nat.le_refl _, fun _ _ _ => rfl, eA⟩ (fun _ _ e => e)
  obtain ⟨g2, hg1, hg2⟩ : ∃ g2 : Nat → Tg, (∀ b, (g b).of 1 → g2 b = .o) ∧ ∀ b, ¬ (g b).of 1 → g2 b = g b := by
    refine ⟨fun b => @ite _ ((g b).of 1) (Classical.propDecidable _) .o (g b), fun b hb => ?_, fun b hb => ?_⟩
    · exact if_pos hb
    · exact if_neg hb
  have hd2 : DK w g2 0 D M N := h2.retag9 (fun b hb => hg2 b (fun e => of01 _ e hb))
  have hL2 : LW w0 w g2 := ⟨h3.below, fun k hk => (hg2 k (by rw [h3.bas k hk]; exact fun e => e)).trans (h3.bas k hk)⟩
  refine (crash_k g2 0 D M N none [] 0 0 0 w hd2 (by omega) rfl (fun h => absurd rfl h) (by unfold maxLen; omega)).mono ?_
  rintro e w' ⟨rfl, g3, r1, r2⟩
  have hseen : (M.crash [] 0).seen = M.seen := by
    rw [crash_seen, crash_last, hp, hd.inv.sn, hp]
    rfl
  refine ⟨rfl, M.crash [] 0, N + 1, g3, gA, P, pc, l, al', hA.keep (X := fun t => ¬ t.of 1) ⟨r2.os, r2.tape, r2.output, r2.size, fun k hk hn => ?_, fun _ _ => rfl⟩ (fun t ht e => e ht), fun b hb => ?_, r1, hL2.st r2, by omega, by rw [hseen]; exact hd.sn, hd.inv.crash [] 0, fun s hs => ⟨hd.ft s hs, hd.sm s hs, (h6.nice (Nat.le_refl _)).le s hs⟩, h6.on (by rw [hseen]; exact hd.sn)⟩
  · have ht : (gA k).of 1 := Classical.byContradiction hn
    rw [eA k hk] at ht
    exact r2.block k hk (by rw [hg1 k ht]; exact of0o)
  · have hlt : b < w.heap.size := by
      apply Classical.byContradiction
      intro hc
      rw [eB b hc] at hb
      exact hb
    rw [eA b hlt] at hb
    rw [r2.ag b hlt]
    exact hg1 b hb
theorem open_ct (w0 w : World) (A D : Nat) (S : List Sg) (K : Nat) (hE : EnvS w0) (h : CrT w0 w A D S K) (hK : K ≤ 1000) :
    Calls Tryz.prog 13 #[.pointer (some ⟨D, 0, none⟩)] w fun e w' => ∃ B, e = .returned (.tuple #[.pointer (some ⟨B, 0, none⟩), .int .i64 0]) ∧ Hid (OpT w0 w' A B D S) := by
  obtain ⟨M, N, g, gA, P, pc, l, al, h1, h2, h3, h4, h5, d1, d3, d5, hP⟩ := h
  have hok := hP.ok (Nat.le_refl _)
  have hom := open_math d1 hP.wf (fun s hs => (d5 s hs).1) stop_nil hok (by have := hP.sl; omega) (fun s hs => by
    obtain ⟨i, hi⟩ := List.getElem?_of_mem hs
    have := (d1.there (fun s hs => (d5 s hs).2.2) hi).2
    rw [this]
    have h2 := (d5 s hs).2.1
    rw [← flB_len] at h2
    split <;> simp <;> omega)
  refine (open5 w0 g D M N w hE h4 h3 (by omega) (fun n hn => ?_) (fun L hL => ⟨(hom L hL).2.1, (hom L hL).2.2.1, (hom L hL).2.2.2.1, (hom L hL).2.2.2.2.1⟩)).mono ?_
  · obtain ⟨s, hs, e⟩ := d1.no n hn
    rw [e, nmS_len _ (d5 s hs).2.2]
    omega
  · rintro e w' ⟨B', rfl, L, g', P', pc', l', q1, q2, q3, q4⟩
    obtain ⟨b, hb⟩ := (hom L q1).2.2.2.2.2
    rw [hb] at q2 q3
    refine ⟨B', rfl, g', gA, P, pc, l, P', pc', l', h1.keep (X := fun t => ¬ t.of 1) ⟨q4.os, q4.tape, q4.output, q4.size, fun k hk hn => ?_, fun _ _ => rfl⟩ (fun t ht e => e ht), q2, h4.st2 q4 x01o, hok⟩
    have ht : (gA k).of 1 := Classical.byContradiction hn
    exact q4.block k hk (by rw [h2 k ht]; exact x01o)
theorem pend_op (w0 w : World) (B D : Nat) (S : List Sg) (a : Option Addr) (c : Nat) (vs : List Sl) (all al' : List (List UInt8)) (K : Nat) (h : OpS w0 w B D S a c vs all al' K) :
    Calls Tryz.prog 35 #[.pointer (some ⟨D, 0, none⟩)] w fun e w' => e = .returned (.int .i64 0) ∧ w' = w := by
  obtain ⟨M, N, g, P, pc, l, h1, h2, h3, h4, h5, h6, _, hp⟩ := h
  have := pending_k g 0 D M N w h2
  rw [hp] at this
  exact this
section
variable (w0 w : World) (A B D : Nat) (S : List Sg) (h : OpT w0 w A B D S)
theorem first_a : OpT w0 w A B D S → Calls Tryz.prog 32 #[.pointer (some ⟨A, 0, none⟩)] w fun e w' => e = .returned (.int .i64 (fsS S : Int)) ∧ Hid (OpT w0 w' A B D S) := fun h => by
  obtain ⟨g, gA, P, pc, l, P', pc', l', h1, h2, h3, h4⟩ := id h
  exact (first5 gA A D P pc l S w h1 h4).mono fun e w' q => ⟨q.1, h.below (unhide q.2)⟩
theorem first_b : OpT w0 w A B D S → Calls Tryz.prog 32 #[.pointer (some ⟨B, 0, none⟩)] w fun e w' => e = .returned (.int .i64 (fsS S : Int)) ∧ Hid (OpT w0 w' A B D S) := fun h => by
  obtain ⟨g, gA, P, pc, l, P', pc', l', h1, h2, h3, h4⟩ := id h
  exact (first5 g B D P' pc' l' S w h2 h4).mono fun e w' q => ⟨q.1, h.below (unhide q.2)⟩
theorem next_a : OpT w0 w A B D S → Calls Tryz.prog 31 #[.pointer (some ⟨A, 0, none⟩)] w fun e w' => e = .returned (.int .i64 (nxS S : Int)) ∧ Hid (OpT w0 w' A B D S) := fun h => by
  obtain ⟨g, gA, P, pc, l, P', pc', l', h1, h2, h3, h4⟩ := id h
  exact (next5 gA A D P pc l S w h1 h4).mono fun e w' q => ⟨q.1, h.below (unhide q.2)⟩
theorem next_b : OpT w0 w A B D S → Calls Tryz.prog 31 #[.pointer (some ⟨B, 0, none⟩)] w fun e w' => e = .returned (.int .i64 (nxS S : Int)) ∧ Hid (OpT w0 w' A B D S) := fun h => by
  obtain ⟨g, gA, P, pc, l, P', pc', l', h1, h2, h3, h4⟩ := id h
  exact (next5 g B D P' pc' l' S w h2 h4).mono fun e w' q => ⟨q.1, h.below (unhide q.2)⟩
theorem bytes_a : OpT w0 w A B D S → Calls Tryz.prog 36 #[.pointer (some ⟨A, 0, none⟩)] w fun e w' => e = .returned (.int .i64 (bySz S : Int)) ∧ Hid (OpT w0 w' A B D S) := fun h => by
  obtain ⟨g, gA, P, pc, l, P', pc', l', h1, h2, h3, h4⟩ := id h
  exact (bytes5 gA A D P pc l S w h1 h4).mono fun e w' q => ⟨q.1, h.below (unhide q.2)⟩
theorem bytes_b : OpT w0 w A B D S → Calls Tryz.prog 36 #[.pointer (some ⟨B, 0, none⟩)] w fun e w' => e = .returned (.int .i64 (bySz S : Int)) ∧ Hid (OpT w0 w' A B D S) := fun h => by
  obtain ⟨g, gA, P, pc, l, P', pc', l', h1, h2, h3, h4⟩ := id h
  exact (bytes5 g B D P' pc' l' S w h2 h4).mono fun e w' q => ⟨q.1, h.below (unhide q.2)⟩
theorem read_a : OpT w0 w A B D S → Calls Tryz.prog 34 #[.pointer (some ⟨A, 0, none⟩), .int .i64 0] w fun e w' => ∃ a' c' vs', e = .returned (.slice a' vs'.length c') ∧ Hid (OwnS w' w.heap.size a' c' vs') ∧ Hid (Pays w' w.heap.size vs' (frS S 0)) ∧ Hid (OpT w0 w' A B D S) ∧ Hid (Below w.heap.size w w') := fun h => by
  obtain ⟨g, gA, P, pc, l, P', pc', l', h1, h2, h3, h4⟩ := id h
  refine (read5 gA A D P pc l S 0 w h1 h4 (by omega) (by omega)).mono ?_
  rintro e w' ⟨a', c', vs', q1, q2, q3, q4⟩
  exact ⟨a', c', vs', q1, q2, q3, h.below (unhide q4), q4⟩
theorem read_b : OpT w0 w A B D S → Calls Tryz.prog 34 #[.pointer (some ⟨B, 0, none⟩), .int .i64 0] w fun e w' => ∃ a' c' vs', e = .returned (.slice a' vs'.length c') ∧ Hid (OwnS w' w.heap.size a' c' vs') ∧ Hid (Pays w' w.heap.size vs' (frS S 0)) ∧ Hid (OpT w0 w' A B D S) ∧ Hid (Below w.heap.size w w') := fun h => by
  obtain ⟨g, gA, P, pc, l, P', pc', l', h1, h2, h3, h4⟩ := id h
  refine (read5 g B D P' pc' l' S 0 w h2 h4 (by omega) (by omega)).mono ?_
  rintro e w' ⟨a', c', vs', q1, q2, q3, q4⟩
  exact ⟨a', c', vs', q1, q2, q3, h.below (unhide q4), q4⟩
end
theorem OpT.low {w0 w : World} {A B D : Nat} {S : List Sg} (h : OpT w0 w A B D S) : Below w0.heap.size w0 w ∧ (frS S 0).length ≤ 1000000 := by
  obtain ⟨g, gA, P, pc, l, P', pc', l', h1, h2, h3, h4⟩ := h
  exact ⟨h3.below, Nat.le_trans (frS_len S 0) h4.rc⟩
set_option maxHeartbeats 8000000 in
theorem again5 (p : Option Addr) (pc : Nat) (l : List D5) (kp : Option Addr) (kc KL : Nat) (kl : List Bool) (tear : Int) (w : World) (hp : DR5 w p l) (hk : BRow w kp kl) (HKL : Hid (KL = kl.length)) (hkm : KL ≤ maxLen) (hE : EnvS w) (hs : shr5 l = true) :
    Calls Tryz.prog 6 #[.slice p l.length pc, .slice kp KL kc, .int .i64 tear] w fun e w' => e = .returned (.bool true) ∧ Hid (Below w.heap.size w w') := by
  have HSH := hide (short5 p pc l w hp)
  have HBG := hide (begun5 w (fun _ => .o) 16777216 w hE (LW.start w) (by omega) (by omega))
  have hl80 := (shr5_len hs).1
  rw [hs] at HSH
  have HS := hide hs
  have HP := hide hp
  have HK := hide hk
  have HE := hide hE
  clear hp hk hE hs
  go_enter Tryz.func6, Tryz.ntmps6
  go_wp2_with fail
  refine (unhide HSH).mono ?_
  rintro e v0 ⟨rfl, hv0⟩
  have hv1 := hv0.symm
  subst hv1
  clear hv0 HSH
  go_wp2_with fail
  refine (unhide HBG).mono ?_
  rintro e w1 ⟨D, B, rfl, HB1⟩
  have HPL := hide (play5 w B D p pc l w1 (unhide HE) (unhide HB1).pl (unhide HP) (unhide HS))
  clear HBG HB1
  go_wp2_with fail
  refine (unhide HPL).mono ?_
  rintro e w2 ⟨a, c, vs, all, y, S, rfl, H2⟩
  clear HPL
  have HCR := hide (crash_pl w w2 B D S a c vs all l.length y kp kl kc KL tear (unhide H2) (by omega) HKL ((unhide HK).below (unhide H2).low (Nat.le_refl _)) hkm)
  go_wp2_with fail
  refine (unhide HCR).mono ?_
  rintro e w3 ⟨rfl, S', H3, _⟩
  clear HCR H2
  have HOP := hide (open_cr w w3 B D S S' a c vs all _ 600 (unhide HE) (unhide H3) (by omega))
  go_wp2_with fail
  refine (unhide HOP).mono ?_
  rintro e w4 ⟨A, rfl, H4⟩
  clear HOP H3
  have HPE := hide (pend_op w w4 A D S' a c vs all _ _ (unhide H4))
  have HC2 := hide (crash_op w w4 A D S' a c vs all _ _ (unhide H4) (by omega))
  go_wp2_with fail
  refine (unhide HPE).mono ?_
  rintro e v4 ⟨rfl, hv4⟩
  have hv5 := hv4.symm
  subst hv5
  clear hv4 HPE
  go_wp2_with fail
  refine (unhide HC2).mono ?_
  rintro e w5 ⟨rfl, H5⟩
  clear HC2 H4
  have HO2 := hide (open_ct w w5 A D S' _ (unhide HE) (unhide H5) (by omega))
  go_wp2_with fail
  refine (unhide HO2).mono ?_
  rintro e w6 ⟨Z, rfl, H6⟩
  clear HO2 H5
  have hlf := (unhide H6).low.2
  go_wp2_with fail
  refine (first_a w w6 A Z D S' (unhide H6)).mono ?_
  rintro e w7 ⟨rfl, H7⟩
  clear H6
  go_wp2_with fail
  refine (first_b w w7 A Z D S' (unhide H7)).mono ?_
  rintro e w8 ⟨rfl, H8⟩
  clear H7
  go_wp2_with fail
  refine (next_a w w8 A Z D S' (unhide H8)).mono ?_
  rintro e w9 ⟨rfl, H9⟩
  clear H8
  go_wp2_with fail
  refine (next_b w w9 A Z D S' (unhide H9)).mono ?_
  rintro e w10 ⟨rfl, H10⟩
  clear H9
  go_wp2_with fail
  refine (bytes_a w w10 A Z D S' (unhide H10)).mono ?_
  rintro e w11 ⟨rfl, H11⟩
  clear H10
  go_wp2_with fail
  refine (bytes_b w w11 A Z D S' (unhide H11)).mono ?_
  rintro e w12 ⟨rfl, H12⟩
  clear H11
  go_wp2_with fail
  refine (read_a w w12 A Z D S' (unhide H12)).mono ?_
  rintro e w13 ⟨a1, c1, v1, rfl, HO1, HP1, H13, _⟩
  clear H12
  go_wp2_with fail
  refine (read_b w w13 A Z D S' (unhide H13)).mono ?_
  rintro e w14 ⟨a2, c2, v2, rfl, HO2, HP2, H14, HB14⟩
  have h1 : v1.length ≤ 1000000000 := by rw [(unhide HP1).len]; omega
  have h2 : v2.length ≤ 1000000000 := by rw [(unhide HP2).len]; omega
  have HEF := hide (eqfunc_any a1 c1 v1 (frS S' 0) a2 c2 v2 (frS S' 0) w14 (SR.of ((unhide HO1).below (unhide HB14) (Nat.le_refl _)) ((unhide HP1).below (unhide HB14) (Nat.le_refl _))) (SR.of (unhide HO2) (unhide HP2)) h1 h2)
  simp only [BEq.rfl] at HEF
  have HAW := hide (awake5 w (fun _ => .o) w14 (unhide HE) (lw_of (unhide H14).low.1))
  clear H13 HO1 HP1 HO2 HP2 HB14 H14 h1 h2
  go_wp2_with fail
  refine (unhide HEF).mono ?_
  rintro e w15 ⟨rfl, hw15⟩
  have hw16 := hw15.symm
  subst hw16
  clear hw15 HEF
  go_wp2_with fail
  refine (unhide HAW).mono ?_
  rintro e w16 ⟨rfl, HB16⟩
  clear HAW
  go_wp2_with fail
  go_ret
  exact ⟨rfl, HB16⟩
set_option maxHeartbeats 1000000 in
theorem again5_long (p : Option Addr) (pc : Nat) (l : List D5) (kv : Value) (tear : Int) (w : World) (hp : DR5 w p l) (hE : EnvS w) (hs : shr5 l = false) :
    Calls Tryz.prog 6 #[.slice p l.length pc, kv, .int .i64 tear] w fun e w' => e = .returned (.bool true) ∧ Hid (Below w.heap.size w w') := by
  have HSH := hide (short5 p pc l w hp)
  have HAW := hide (awake5 w (fun _ => .o) w hE (LW.start w))
  rw [hs] at HSH
  clear hp hE hs
  go_enter Tryz.func6, Tryz.ntmps6
  go_wp2_with fail
  refine (unhide HSH).mono ?_
  rintro e v0 ⟨rfl, hv0⟩
  have hv1 := hv0.symm
  subst hv1
  clear hv0 HSH
  go_wp2_with fail
  refine (unhide HAW).mono ?_
  rintro e w1 ⟨rfl, HB1⟩
  clear HAW
  go_wp2_with fail
  go_ret
  exact ⟨rfl, HB1⟩
theorem seglogAgain_walk (p : Option Addr) (pc : Nat) (l : List D5) (kp : Option Addr) (kc : Nat) (kl : List Bool) (tear : Int) (w : World) (hp : DR5 w p l) (hk : BRow w kp kl) (hkm : kl.length ≤ maxLen) (hE : EnvS w) :
    Calls Tryz.prog 6 #[.slice p l.length pc, .slice kp kl.length kc, .int .i64 tear] w fun e w' => e = .returned (.bool true) ∧ Below w.heap.size w w' := by
  cases hs : shr5 l with
  | false => exact (again5_long p pc l _ tear w hp hE hs).mono fun e w' h => ⟨h.1, unhide h.2⟩
  | true => exact (again5 p pc l kp kc kl.length kl tear w hp hk rfl hkm hE hs).mono fun e w' h => ⟨h.1, unhide h.2⟩
#print axioms seglogAgain_walk
end Go.Proofs.YtneclcihjbkhlaaGreatDoor
end
