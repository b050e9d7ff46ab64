/-
  httpd: a row of feeds that came in; short (HttpdFeeds).
-/
import Derived.Test.YtonaekkenggmbaaGreatDoorPkHedsbm
import Derived.Test.YtonaekkenggmbaaGreatDoorPkHedsbn
import Derived.Deep.Grids
section
set_option linter.unusedVariables false
namespace Go.Proofs.YtonaekkenggmbaaGreatDoor
open Go.RowKit Go.Maps Go.Joins Go.WideShapes Go.ChangeShapes

theorem Tryz.cellsFd : Tryz.prog.cellsOf 32 = 2 := by kernel_rfl
theorem Tryz.cellsFi : Tryz.prog.cellsOf 3 = 1 := by kernel_rfl
theorem Tryz.cellsFb : Tryz.prog.cellsOf 28 = 1 := by kernel_rfl
/-- A feed. -/
structure Fd9 where
  o : Int
  l : List UInt8
/-- A call that lies at an address: where its bytes lie. -/
structure FdV (w : World) (d : Fd9) (x : Option Addr) (c : Nat) : Prop where
  o : (Lit.int .i64 d.o).wf = true
  l : Bs w x c d.l
def fdCells (d : Fd9) (x : Option Addr) (c : Nat) : List Value := [.int .i64 d.o, .slice x d.l.length c]
theorem FdV.below {w w' : World} {B : Nat} {d : Fd9} {x : Option Addr} {c : Nat} (h : FdV w d x c) (hb : Below B w w') (hB : w.heap.size ≤ B) : FdV w' d x c := ⟨h.o, h.l.below hb hB⟩
/-- A row of calls. -/
structure FdR (w : World) (p : Option Addr) (l : List Fd9) : Prop where
  mem : l ≠ [] → ∃ b off, p = some ⟨b, off, none⟩ ∧ ∀ t d, l[t]? = some d → ∃ x c, FdV w d x c ∧ w.cell? ⟨b, off + t * 2, none⟩ = some (.int .i64 d.o) ∧ w.cell? ⟨b, off + t * 2 + 1, none⟩ = some (.slice x d.l.length c)
  le : l.length ≤ maxLen
theorem FdR.below {w w' : World} {B : Nat} {p : Option Addr} {l : List Fd9} (h : FdR w p l) (hb : Below B w w') (hB : w.heap.size ≤ B) : FdR w' p l := by
  refine ⟨fun hne => ?_, h.le⟩
  obtain ⟨b, off, rfl, hc⟩ := h.mem hne
  refine ⟨b, off, rfl, fun t d hd => ?_⟩
  obtain ⟨x, c, h1, c0, c1⟩ := hc t d hd
  have k : ∀ {q : Addr} {v : Value}, w.cell? q = some v → w'.cell? q = some v := fun {q v} e => by
    rw [hb.cell (Nat.lt_of_lt_of_le (World.block_lt_of_cell? w _ e) hB)]; exact e
  exact ⟨x, c, h1.below hb hB, k c0, k c1⟩

section
variable {H : Type} {enc : TypeId × Value → H} {w : World}
theorem bytes_open9 {fuel : Nat} {cs : List Value} {x : DataW H × List MemPlace} (h : DataW.trod enc Tryz.prog w 0 (fun _ => true) true fuel 28 cs = some x) : ∃ a c l, cs = [.slice a l.length c] ∧ Bs w a c l := by
  obtain ⟨a, n, c, zs, rfl, hz⟩ : ∃ a n c zs, cs = [.slice a n c] ∧ IsRow w a n c zs := by
    rcases open_ints Tryz.underlying28 Tryz.underlying5 (by kernel_rfl) h with ⟨hcs, _⟩ | ⟨x, l, c, zs, hcs, _, hl, hm, hz, _, hcell, hwz⟩
    · exact ⟨none, 0, 0, [], hcs, .inl ⟨rfl, rfl, rfl, rfl⟩⟩
    · exact ⟨some x, l, c, zs, hcs, .inr ⟨_, rfl, hl, hm, by simpa using hz, hcell, hwz⟩⟩
  obtain ⟨l, rfl, hb⟩ := bs_of hz
  exact ⟨a, c, l, rfl, hb⟩
set_option maxRecDepth 100000 in
theorem fd_el {fuel : Nat} {cs : List Value} {x : DataW H × List MemPlace} (h : DataW.trod enc Tryz.prog w 0 (fun _ => true) true fuel 32 cs = some x) : ∃ d x c, cs = fdCells d x c ∧ FdV w d x c := by
  obtain ⟨xs, k, _, _, hl, hlen, hf'⟩ := DataW.trod_struct Tryz.underlying32 h
  rw [Tryz.cellsFd] at hl
  match cs, hl with
  | [v0, v1], _ =>
    have t0 := hf' 0 _ rfl
    have t1 := hf' 1 _ rfl
    simp [Tryz.cellsFi, Tryz.cellsFb] at t0 t1
    match xs, hlen with
    | [y0, y1], _ =>
      simp only [List.getElem?_cons_zero, List.getElem?_cons_succ] at t0 t1
      obtain ⟨o, e0, _, w0⟩ := DataW.trod_int Tryz.underlying3 t0
      obtain ⟨y, c, l, e4, hb⟩ := bytes_open9 t1
      simp only [List.cons.injEq, and_true] at e0 e4
      subst e0 e4
      exact ⟨⟨o, l⟩, y, c, rfl, ⟨w0, hb⟩⟩
set_option maxRecDepth 100000 in
theorem fds_open {fuel : Nat} {cs : List Value} {x : DataW H × List MemPlace} (h : DataW.trod enc Tryz.prog w 0 (fun _ => true) true fuel 22 cs = some x) : ∃ p c l, cs = [.slice p l.length c] ∧ FdR w p l := by
  rcases Go.Deep.open_slice Tryz.underlying22 h with ⟨hcs, _⟩ | ⟨x, len, cap, m, n, D, Pl, hcs, _, hl, hm, hmm, _, hr⟩
  · exact ⟨none, 0, [], hcs, ⟨fun h => absurd rfl h, Nat.zero_le _⟩⟩
  · simp only [if_true] at hmm
    subst hmm
    have each : ∀ i, i < len → ∃ d : Fd9, ∃ y c, FdV w d y c ∧ w.cells? 0 (x.add (i * 2)) 2 = some (fdCells d y c) := by
      intro i hi
      obtain ⟨cs', k1, k2⟩ := hr i (by omega)
      obtain ⟨d, y, c, rfl, hv⟩ := fd_el k2
      refine ⟨d, y, c, hv, ?_⟩
      have k3 : w.cells? 0 (x.add (i * Tryz.prog.cellsOf 32)) (Tryz.prog.cellsOf 32) = some (fdCells d y c) := k1
      rw [Tryz.cellsFd] at k3
      exact k3
    obtain ⟨f, hf⟩ : ∃ f : Nat → Fd9, ∀ i, i < len → ∃ y c, FdV w (f i) y c ∧ w.cells? 0 (x.add (i * 2)) 2 = some (fdCells (f i) y c) :=
      ⟨fun i => if h : i < len then (each i h).choose else ⟨0, []⟩, fun i h => by simp only [dif_pos h]; exact (each i h).choose_spec⟩
    refine ⟨some x, m, (List.range len).map f, by simpa using hcs, ⟨fun hne => ?_, by simp; omega⟩⟩
    have h0 : 0 < len := by
      rcases Nat.eq_zero_or_pos len with h | h
      · subst h; simp at hne
      · exact h
    have key : ∀ i y c j v, w.cells? 0 (x.add (i * 2)) 2 = some (fdCells (f i) y c) → (fdCells (f i) y c)[j]? = some v → w.cell? ((x.add (i * 2)).add j) = some v := by
      intro i y c j v e1 e2
      have hj : j < 2 := by have := (List.getElem?_eq_some_iff.1 e2).1; simpa [fdCells] using this
      rw [(World.cells?_some e1).2.2 j hj, e2]
    obtain ⟨b, off, spot⟩ := x
    have hspot : spot = Option.none := by
      obtain ⟨y, c, _, e⟩ := hf 0 h0
      have := key 0 y c 0 _ e rfl
      simpa [Addr.add] using World.cell?_spot this
    subst hspot
    refine ⟨b, off, rfl, fun t d hd => ?_⟩
    have ht : t < len := by have := (List.getElem?_eq_some_iff.1 hd).1; simpa using this
    obtain rfl : f t = d := by simpa [ht] using hd
    obtain ⟨y, c, hv, e⟩ := hf t ht
    have k := fun j v => key t y c j v e
    rw [addr_add] at k
    simp only [addr_add] at k
    exact ⟨y, c, hv, k 0 _ rfl, k 1 _ rfl⟩
end

/-- What short asks, as far as it is used. -/
def ShortF (l : List Fd9) : Prop := l.length ≤ 200 ∧ ∀ (t : Nat) (d : Fd9), l[t]? = some d → d.l.length ≤ 262144

set_option maxRecDepth 20000 in
set_option maxHeartbeats 4000000 in
theorem short_f (p : Option Addr) (cp : Nat) (l : List Fd9) (w : World) (h : FdR w p l) :
    Calls Tryz.prog 9 #[.slice p l.length cp] w fun e w' => w' = w ∧ (e = .returned (.bool false) ∨ (e = .returned (.bool true) ∧ Hid (ShortF l))) := by
  have hle := h.le
  unfold maxLen at hle
  go_enter Tryz.func9, Tryz.ntmps9
  go_wp2
  go_loopw [3, 4] (fun v i wr => ∃ k m : Nat, k ≤ l.length ∧ k ≤ 201 ∧ i = .int .i64 (k : Int) ∧ v = .int .i64 (m : Int) ∧ m ≤ k * 262144 ∧ Hid (∀ t (d : Fd9), t < k → l[t]? = some d → d.l.length ≤ 262144) ∧ wr = w) (fun _ i _ => l.length - (intOf i).toNat)
  case atStart => exact ⟨0, 0, Nat.zero_le _, Nat.zero_le _, rfl, rfl, Nat.zero_le _, (fun t d ht => by omega), rfl⟩
  case round =>
    obtain ⟨k, m, hk, hk2, rfl, rfl, hm0, HT, rfl⟩ := hrel
    have hm : m ≤ 100000000 := by omega
    by_cases hlt : k < l.length
    · by_cases hlt2 : k ≤ 200
      · obtain ⟨d, hd⟩ : ∃ d, l[k]? = some d := ⟨_, List.getElem?_eq_getElem hlt⟩
        obtain ⟨b, off, rfl, hc⟩ := h.mem (by intro e; subst e; simp at hd)
        obtain ⟨x, c, hv, -, c4⟩ := hc k d hd
        have hbl := hv.l.le
        have hbm := hv.l.most
        unfold maxLen at hbm
        have e1 : (k : Int) < (l.length : Int) := by omega
        have e2 : (k : Int) ≤ 200 := by omega
        clear hc
        by_cases hbig : 262144 < d.l.length
        · have e3 : (262144 : Int) < (d.l.length : Int) := by omega
          clear hd hbig
          go_wp2
          go_ret
          exact ⟨rfl, .inl rfl⟩
        · have e3 : ¬ (262144 : Int) < (d.l.length : Int) := by omega
          have HT2 : Hid (∀ t (d : Fd9), t < k + 1 → l[t]? = some d → d.l.length ≤ 262144) := by
            intro t d' ht hd'
            by_cases htk : t = k
            · subst htk
              rw [hd] at hd'
              cases hd'
              omega
            · exact unhide HT t d' (by omega) hd'
          have hmm : m + d.l.length ≤ (k + 1) * 262144 := by omega
          clear hd hbig
          go_wp2
          go_roundw
          case rel => exact ⟨k + 1, m + d.l.length, by omega, by omega, by go_num, by go_num, hmm, HT2, trivial⟩
          case measure => simp [intOf]; omega
      · have e1 : (k : Int) < (l.length : Int) := by omega
        have e2 : ¬ (k : Int) ≤ 200 := by omega
        have e3 : ¬ (l.length : Int) ≤ 200 := by omega
        go_wp2
        go_ret
        exact ⟨rfl, .inl rfl⟩
    · obtain rfl : k = l.length := by omega
      by_cases h1 : l.length ≤ 200
      · have e1 : (l.length : Int) ≤ 200 := by omega
        have HS : Hid (ShortF l) := ⟨h1, fun t d hd => unhide HT t d (List.getElem?_eq_some_iff.1 hd).1 hd⟩
        clear h1
        by_cases h2 : m ≤ 262144
        · have e2 : (m : Int) ≤ 262144 := by omega
          clear h2
          go_wp2
          go_ret
          exact ⟨rfl, .inr ⟨rfl, HS⟩⟩
        · have e2 : ¬ (m : Int) ≤ 262144 := by omega
          clear h2
          go_wp2
          go_ret
          exact ⟨rfl, .inl rfl⟩
      · have e1 : ¬ (l.length : Int) ≤ 200 := by omega
        go_wp2
        go_ret
        exact ⟨rfl, .inl rfl⟩
theorem op4 (o : Int) : ∃ r : Nat, r < 4 ∧ wrap64 ((IntKind.u64.wrap o).tmod 4) = (r : Int) := by
  have e : IntKind.u64.wrap o = o % 18446744073709551616 := by simp [IntKind.wrap, IntKind.bits, IntKind.signed]
  have h0 : 0 ≤ o % 18446744073709551616 := Int.emod_nonneg _ (by omega)
  have e2 : (o % 18446744073709551616).tmod 4 = o % 18446744073709551616 % 4 := Int.tmod_eq_emod_of_nonneg h0
  refine ⟨(o % 4).toNat, by omega, ?_⟩
  rw [e, e2]
  have e3 : o % 18446744073709551616 % 4 = o % 4 := by omega
  rw [e3, IntWalk.wrap64_in _ (by omega)]
  omega
#print axioms fds_open
#print axioms short_f
end Go.Proofs.YtonaekkenggmbaaGreatDoor
end
