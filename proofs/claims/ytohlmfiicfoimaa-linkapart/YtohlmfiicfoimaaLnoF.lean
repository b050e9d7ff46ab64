/-
  link: a row of calls that came in; short.
-/
import Derived.Test.YtohlmfiicfoimaaLnoE
import Derived.Test.YtohlmfiicfoimaaDoO
import Derived.Deep.Grids
set_option linter.unusedVariables false
namespace Go.Proofs.Ytohlmfiicfoimaa
open Go.RowKit Go.Maps Go.Joins Go.WideShapes Go.ChangeShapes

/-- A call of a net. -/
structure Dl where
  o : Int
  i : Int
  a : Int
  b : Int
  l : List UInt8
/-- A call that lies at an address: where its bytes lie. -/
structure DlV (w : World) (d : Dl) (x : Option Addr) (c : Nat) : Prop where
  o : (Lit.int .i64 d.o).wf = true
  i : (Lit.int .i64 d.i).wf = true
  a : (Lit.int .i64 d.a).wf = true
  b : (Lit.int .i64 d.b).wf = true
  l : Bs w x c d.l
def dlCells (d : Dl) (x : Option Addr) (c : Nat) : List Value := [.int .i64 d.o, .int .i64 d.i, .int .i64 d.a, .int .i64 d.b, .slice x d.l.length c]
theorem DlV.below {w w' : World} {B : Nat} {d : Dl} {x : Option Addr} {c : Nat} (h : DlV w d x c) (hb : Below B w w') (hB : w.heap.size ≤ B) : DlV w' d x c := ⟨h.o, h.i, h.a, h.b, h.l.below hb hB⟩
/-- A row of calls. -/
structure DlR (w : World) (p : Option Addr) (l : List Dl) : Prop where
  mem : l ≠ [] → ∃ b off, p = some ⟨b, off, none⟩ ∧ ∀ t d, l[t]? = some d → ∃ x c, DlV w d x c ∧ w.cell? ⟨b, off + t * 5, none⟩ = some (.int .i64 d.o) ∧ w.cell? ⟨b, off + t * 5 + 1, none⟩ = some (.int .i64 d.i) ∧ w.cell? ⟨b, off + t * 5 + 2, none⟩ = some (.int .i64 d.a) ∧ w.cell? ⟨b, off + t * 5 + 3, none⟩ = some (.int .i64 d.b) ∧ w.cell? ⟨b, off + t * 5 + 4, none⟩ = some (.slice x d.l.length c)
  le : l.length ≤ maxLen
theorem DlR.below {w w' : World} {B : Nat} {p : Option Addr} {l : List Dl} (h : DlR w p l) (hb : Below B w w') (hB : w.heap.size ≤ B) : DlR w' p l := by
  refine ⟨fun hne => ?_, h.le⟩
  obtain ⟨b, off, rfl, hc⟩ := h.mem hne
  refine ⟨b, off, rfl, fun t d hd => ?_⟩
  obtain ⟨x, c, h1, c0, c1, c2, c3, c4⟩ := hc t d hd
  have k : ∀ {q : Addr} {v : Value}, w.cell? q = some v → w'.cell? q = some v := fun {q v} e => by
    rw [hb.cell (Nat.lt_of_lt_of_le (World.block_lt_of_cell? w _ e) hB)]; exact e
  exact ⟨x, c, h1.below hb hB, k c0, k c1, k c2, k c3, k c4⟩

section
variable {H : Type} {enc : TypeId × Value → H} {w : World}
theorem bytes_open {fuel : Nat} {cs : List Value} {x : DataW H × List MemPlace} (h : DataW.trod enc Try.prog w 0 (fun _ => true) true fuel 31 cs = some x) : ∃ a c l, cs = [.slice a l.length c] ∧ Bs w a c l := by
  obtain ⟨a, n, c, zs, rfl, hz⟩ : ∃ a n c zs, cs = [.slice a n c] ∧ IsRow w a n c zs := by
    rcases open_ints Try.underlying31 Try.underlying5 (by kernel_rfl) h with ⟨hcs, _⟩ | ⟨x, l, c, zs, hcs, _, hl, hm, hz, _, hcell, hwz⟩
    · exact ⟨none, 0, 0, [], hcs, .inl ⟨rfl, rfl, rfl, rfl⟩⟩
    · exact ⟨some x, l, c, zs, hcs, .inr ⟨_, rfl, hl, hm, by simpa using hz, hcell, hwz⟩⟩
  obtain ⟨l, rfl, hb⟩ := bs_of hz
  exact ⟨a, c, l, rfl, hb⟩
set_option maxRecDepth 100000 in
theorem dl_el {fuel : Nat} {cs : List Value} {x : DataW H × List MemPlace} (h : DataW.trod enc Try.prog w 0 (fun _ => true) true fuel 33 cs = some x) : ∃ d x c, cs = dlCells d x c ∧ DlV w d x c := by
  obtain ⟨xs, k, _, _, hl, hlen, hf'⟩ := DataW.trod_struct Try.underlying33 h
  rw [Try.cellsDo] at hl
  match cs, hl with
  | [v0, v1, v2, v3, v4], _ =>
    have t0 := hf' 0 _ rfl
    have t1 := hf' 1 _ rfl
    have t2 := hf' 2 _ rfl
    have t3 := hf' 3 _ rfl
    have t4 := hf' 4 _ rfl
    simp [Try.cellsI, Try.cellsB] at t0 t1 t2 t3 t4
    match xs, hlen with
    | [y0, y1, y2, y3, y4], _ =>
      simp only [List.getElem?_cons_zero, List.getElem?_cons_succ] at t0 t1 t2 t3 t4
      obtain ⟨o, e0, _, w0⟩ := DataW.trod_int Try.underlying3 t0
      obtain ⟨i, e1, _, w1⟩ := DataW.trod_int Try.underlying3 t1
      obtain ⟨a, e2, _, w2⟩ := DataW.trod_int Try.underlying3 t2
      obtain ⟨z, e3, _, w3⟩ := DataW.trod_int Try.underlying3 t3
      obtain ⟨y, c, l, e4, hb⟩ := bytes_open t4
      simp only [List.cons.injEq, and_true] at e0 e1 e2 e3 e4
      subst e0 e1 e2 e3 e4
      exact ⟨⟨o, i, a, z, l⟩, y, c, rfl, ⟨w0, w1, w2, w3, hb⟩⟩
set_option maxRecDepth 100000 in
theorem dls_open {fuel : Nat} {cs : List Value} {x : DataW H × List MemPlace} (h : DataW.trod enc Try.prog w 0 (fun _ => true) true fuel 22 cs = some x) : ∃ p c l, cs = [.slice p l.length c] ∧ DlR w p l := by
  rcases Go.Deep.open_slice Try.underlying22 h with ⟨hcs, _⟩ | ⟨x, len, cap, m, n, D, Pl, hcs, _, hl, hm, hmm, _, hr⟩
  · exact ⟨none, 0, [], hcs, ⟨fun h => absurd rfl h, Nat.zero_le _⟩⟩
  · simp only [if_true] at hmm
    subst hmm
    have each : ∀ i, i < len → ∃ d : Dl, ∃ y c, DlV w d y c ∧ w.cells? 0 (x.add (i * 5)) 5 = some (dlCells d y c) := by
      intro i hi
      obtain ⟨cs', k1, k2⟩ := hr i (by omega)
      obtain ⟨d, y, c, rfl, hv⟩ := dl_el k2
      refine ⟨d, y, c, hv, ?_⟩
      have k3 : w.cells? 0 (x.add (i * Try.prog.cellsOf 33)) (Try.prog.cellsOf 33) = some (dlCells d y c) := k1
      rw [Try.cellsDo] at k3
      exact k3
    obtain ⟨f, hf⟩ : ∃ f : Nat → Dl, ∀ i, i < len → ∃ y c, DlV w (f i) y c ∧ w.cells? 0 (x.add (i * 5)) 5 = some (dlCells (f i) y c) :=
      ⟨fun i => if h : i < len then (each i h).choose else ⟨0, 0, 0, 0, []⟩, fun i h => by simp only [dif_pos h]; exact (each i h).choose_spec⟩
    refine ⟨some x, m, (List.range len).map f, by simpa using hcs, ⟨fun hne => ?_, by simp; omega⟩⟩
    have h0 : 0 < len := by
      rcases Nat.eq_zero_or_pos len with h | h
      · subst h; simp at hne
      · exact h
    have key : ∀ i y c j v, w.cells? 0 (x.add (i * 5)) 5 = some (dlCells (f i) y c) → (dlCells (f i) y c)[j]? = some v → w.cell? ((x.add (i * 5)).add j) = some v := by
      intro i y c j v e1 e2
      have hj : j < 5 := by have := (List.getElem?_eq_some_iff.1 e2).1; simpa [dlCells] using this
      rw [(World.cells?_some e1).2.2 j hj, e2]
    obtain ⟨b, off, spot⟩ := x
    have hspot : spot = Option.none := by
      obtain ⟨y, c, _, e⟩ := hf 0 h0
      have := key 0 y c 0 _ e rfl
      simpa [Addr.add] using World.cell?_spot this
    subst hspot
    refine ⟨b, off, rfl, fun t d hd => ?_⟩
    have ht : t < len := by have := (List.getElem?_eq_some_iff.1 hd).1; simpa using this
    obtain rfl : f t = d := by simpa [ht] using hd
    obtain ⟨y, c, hv, e⟩ := hf t ht
    have k := fun j v => key t y c j v e
    rw [addr_add] at k
    simp only [addr_add] at k
    exact ⟨y, c, hv, k 0 _ rfl, k 1 _ rfl, k 2 _ rfl, k 3 _ rfl, k 4 _ rfl⟩
end

/-- What short asks, as far as it is used. -/
def ShortL (l : List Dl) : Prop := l.length ≤ 200 ∧ ∀ (t : Nat) (d : Dl), l[t]? = some d → d.l.length ≤ 262144

set_option maxRecDepth 20000 in
set_option maxHeartbeats 4000000 in
theorem short_l (p : Option Addr) (cp : Nat) (l : List Dl) (w : World) (h : DlR w p l) :
    Calls Try.prog 6 #[.slice p l.length cp] w fun e w' => w' = w ∧ (e = .returned (.bool false) ∨ (e = .returned (.bool true) ∧ Hid (ShortL l))) := by
  have hle := h.le
  unfold maxLen at hle
  go_enter Try.func6, Try.ntmps6
  go_wp2
  go_loopw [3, 4] (fun v i wr => ∃ k m : Nat, k ≤ l.length ∧ k ≤ 201 ∧ i = .int .i64 (k : Int) ∧ v = .int .i64 (m : Int) ∧ m ≤ k * 262144 ∧ Hid (∀ t (d : Dl), t < k → l[t]? = some d → d.l.length ≤ 262144) ∧ wr = w) (fun _ i _ => l.length - (intOf i).toNat)
  case atStart => exact ⟨0, 0, Nat.zero_le _, Nat.zero_le _, rfl, rfl, Nat.zero_le _, (fun t d ht => by omega), rfl⟩
  case round =>
    obtain ⟨k, m, hk, hk2, rfl, rfl, hm0, HT, rfl⟩ := hrel
    have hm : m ≤ 100000000 := by omega
    by_cases hlt : k < l.length
    · by_cases hlt2 : k ≤ 200
      · obtain ⟨d, hd⟩ : ∃ d, l[k]? = some d := ⟨_, List.getElem?_eq_getElem hlt⟩
        obtain ⟨b, off, rfl, hc⟩ := h.mem (by intro e; subst e; simp at hd)
        obtain ⟨x, c, hv, -, -, -, -, c4⟩ := hc k d hd
        have hbl := hv.l.le
        have hbm := hv.l.most
        unfold maxLen at hbm
        have e1 : (k : Int) < (l.length : Int) := by omega
        have e2 : (k : Int) ≤ 200 := by omega
        clear hc
        by_cases hbig : 262144 < d.l.length
        · have e3 : (262144 : Int) < (d.l.length : Int) := by omega
          clear hd hbig
          go_wp2
          go_ret
          exact ⟨rfl, .inl rfl⟩
        · have e3 : ¬ (262144 : Int) < (d.l.length : Int) := by omega
          have HT2 : Hid (∀ t (d : Dl), t < k + 1 → l[t]? = some d → d.l.length ≤ 262144) := by
            intro t d' ht hd'
            by_cases htk : t = k
            · subst htk
              rw [hd] at hd'
              cases hd'
              omega
            · exact unhide HT t d' (by omega) hd'
          have hmm : m + d.l.length ≤ (k + 1) * 262144 := by omega
          clear hd hbig
          go_wp2
          go_roundw
          case rel => exact ⟨k + 1, m + d.l.length, by omega, by omega, by go_num, by go_num, hmm, HT2, trivial⟩
          case measure => simp [intOf]; omega
      · have e1 : (k : Int) < (l.length : Int) := by omega
        have e2 : ¬ (k : Int) ≤ 200 := by omega
        have e3 : ¬ (l.length : Int) ≤ 200 := by omega
        go_wp2
        go_ret
        exact ⟨rfl, .inl rfl⟩
    · obtain rfl : k = l.length := by omega
      by_cases h1 : l.length ≤ 200
      · have e1 : (l.length : Int) ≤ 200 := by omega
        have HS : Hid (ShortL l) := ⟨h1, fun t d hd => unhide HT t d (List.getElem?_eq_some_iff.1 hd).1 hd⟩
        clear h1
        by_cases h2 : m ≤ 1048576
        · have e2 : (m : Int) ≤ 1048576 := by omega
          clear h2
          go_wp2
          go_ret
          exact ⟨rfl, .inr ⟨rfl, HS⟩⟩
        · have e2 : ¬ (m : Int) ≤ 1048576 := by omega
          clear h2
          go_wp2
          go_ret
          exact ⟨rfl, .inl rfl⟩
      · have e1 : ¬ (l.length : Int) ≤ 200 := by omega
        go_wp2
        go_ret
        exact ⟨rfl, .inl rfl⟩
#print axioms dls_open
#print axioms short_l
end Go.Proofs.Ytohlmfiicfoimaa
