/-
  kvstore's statements: a slice of ops that came in, opened.; kvstore's statements: a row of calls that came in.; kvstore's statements: short as mathematics.; kvstore's statements: short.
-/
import Derived.Test.YtmcgghjeocnpnaaGreatDoorPkKewsbi
import Derived.Deep.Grids
section
set_option linter.unusedVariables false
namespace Go.Proofs.YtmcgghjeocnpnaaGreatDoor
open Go.RowKit Go.Joins Go.WideShapes Go.ChangeShapes

theorem Tryz.cells6S : Tryz.prog.cellsOf 9 = 1 := by kernel_rfl
theorem Tryz.cells6B : Tryz.prog.cellsOf 4 = 1 := by kernel_rfl
theorem Tryz.cells6O : Tryz.prog.cellsOf 55 = 3 := by kernel_rfl
section
variable {H : Type} {enc : TypeId × Value → H} {w : World}
set_option maxRecDepth 100000 in
theorem op_el {fuel : Nat} {cs : List Value} {x : DataW H × List MemPlace} (h : DataW.trod enc Tryz.prog w 0 (fun _ => true) true fuel 55 cs = some x) : ∃ o : Op6, cs = ocC o ∧ o.k.length ≤ maxLen ∧ o.v.length ≤ maxLen := by
  obtain ⟨xs, k, _, _, hl, hlen, hf'⟩ := DataW.trod_struct Tryz.underlying55 h
  rw [Tryz.cells6O] at hl
  match cs, hl with
  | [v0, v1, v2], _ =>
    have t0 := hf' 0 _ rfl
    have t1 := hf' 1 _ rfl
    have t2 := hf' 2 _ rfl
    simp [Tryz.cells6S, Tryz.cells6B] at t0 t1 t2
    match xs, hlen with
    | [y0, y1, y2], _ =>
      simp only [List.getElem?_cons_zero, List.getElem?_cons_succ] at t0 t1 t2
      obtain ⟨a, e0, _, h0⟩ := DataW.trod_string Tryz.underlying9 t0
      obtain ⟨g, e1, _⟩ := DataW.trod_bool Tryz.underlying4 t1
      obtain ⟨b, e2, _, h2⟩ := DataW.trod_string Tryz.underlying9 t2
      simp only [List.cons.injEq, and_true] at e0 e1 e2
      subst e0 e1 e2
      refine ⟨⟨a.data.toList, g, b.data.toList⟩, ?_, ?_, ?_⟩
      · unfold ocC
        simp only [str_back]
      · simpa using h0
      · simpa using h2
set_option maxRecDepth 100000 in
theorem ops_open {fuel : Nat} {cs : List Value} {x : DataW H × List MemPlace} (h : DataW.trod enc Tryz.prog w 0 (fun _ => true) true fuel 31 cs = some x) : ∃ p c l, cs = [.slice p l.length c] ∧ OpR6 w p l := by
  rcases Go.Deep.open_slice Tryz.underlying31 h with ⟨hcs, _⟩ | ⟨x, len, cap, m, n, D, Pl, hcs, _, hl, hm, hmm, _, hr⟩
  · exact ⟨none, 0, [], hcs, ⟨fun h => absurd rfl h, Nat.zero_le _, fun o ho => by cases ho⟩⟩
  · simp only [if_true] at hmm
    subst hmm
    have each : ∀ i, i < len → ∃ o : Op6, (o.k.length ≤ maxLen ∧ o.v.length ≤ maxLen) ∧ w.cells? 0 (x.add (i * 3)) 3 = some (ocC o) := by
      intro i hi
      obtain ⟨cs', k1, k2⟩ := hr i (by omega)
      obtain ⟨o, rfl, hv⟩ := op_el k2
      refine ⟨o, hv, ?_⟩
      have k3 : w.cells? 0 (x.add (i * Tryz.prog.cellsOf 55)) (Tryz.prog.cellsOf 55) = some (ocC o) := k1
      rw [Tryz.cells6O] at k3
      exact k3
    obtain ⟨f, hf⟩ : ∃ f : Nat → Op6, ∀ i, i < len → ((f i).k.length ≤ maxLen ∧ (f i).v.length ≤ maxLen) ∧ w.cells? 0 (x.add (i * 3)) 3 = some (ocC (f i)) :=
      ⟨fun i => if h : i < len then (each i h).choose else ⟨[], false, []⟩, fun i h => by simp only [dif_pos h]; exact (each i h).choose_spec⟩
    refine ⟨some x, m, (List.range len).map f, by simpa using hcs, ⟨fun hne => ?_, by simp; omega, fun o ho => ?_⟩⟩
    · have h0 : 0 < len := by
        rcases Nat.eq_zero_or_pos len with h | h
        · subst h; simp at hne
        · exact h
      have key : ∀ i j v, w.cells? 0 (x.add (i * 3)) 3 = some (ocC (f i)) → (ocC (f i))[j]? = some v → w.cell? ((x.add (i * 3)).add j) = some v := by
        intro i j v e1 e2
        have hj : j < 3 := by have := (List.getElem?_eq_some_iff.1 e2).1; simpa [ocC] using this
        rw [(World.cells?_some e1).2.2 j hj, e2]
      obtain ⟨b, off, spot⟩ := x
      have hspot : spot = Option.none := by
        have := key 0 0 _ (hf 0 h0).2 rfl
        simpa [Addr.add] using World.cell?_spot this
      subst hspot
      refine ⟨b, off, rfl, fun t d hd => ?_⟩
      have ht : t < len := by have := (List.getElem?_eq_some_iff.1 hd).1; simpa using this
      obtain rfl : f t = d := by simpa [ht] using hd
      have k := fun j v => key t j v (hf t ht).2
      rw [addr_add] at k
      simp only [addr_add] at k
      exact ⟨k 0 _ rfl, k 1 _ rfl, k 2 _ rfl⟩
    · obtain ⟨i, hi, rfl⟩ := List.mem_map.1 ho
      exact (hf i (List.mem_range.1 hi)).1
end
#print axioms ops_open
end Go.Proofs.YtmcgghjeocnpnaaGreatDoor
end
section
set_option linter.unusedVariables false
namespace Go.Proofs.YtmcgghjeocnpnaaGreatDoor
open Go.RowKit Go.Joins Go.WideShapes Go.ChangeShapes

/-- A call of a store, or a crash. -/
structure D6 where
  o : Int
  l : List Op6
  k : List Bool
  n : Int
/-- Where its two rows lie. -/
structure A6 where
  x : Option Addr
  c : Nat
  y : Option Addr
  m : Nat
structure DV6 (w : World) (d : D6) (a : A6) : Prop where
  l : OpR6 w a.x d.l
  k : BRow w a.y d.k
  kl : d.k.length ≤ maxLen
def DV6.cells (d : D6) (a : A6) : Array Value := #[.int .i64 d.o, .slice a.x d.l.length a.c, .slice a.y d.k.length a.m, .int .i64 d.n]
theorem DV6.below {w w' : World} {B : Nat} {d : D6} {a : A6} (h : DV6 w d a) (hb : Below B w w') (hB : w.heap.size ≤ B) : DV6 w' d a := ⟨h.l.below hb hB, h.k.below hb hB, h.kl⟩
/-- A row of calls. -/
structure DR6 (w : World) (p : Option Addr) (l : List D6) : Prop where
  mem : l ≠ [] → ∃ b off, p = some ⟨b, off, none⟩ ∧ ∀ t d, l[t]? = some d → ∃ a, DV6 w d a ∧ w.cell? ⟨b, off + t * 4, none⟩ = some (.int .i64 d.o) ∧ w.cell? ⟨b, off + t * 4 + 1, none⟩ = some (.slice a.x d.l.length a.c) ∧ w.cell? ⟨b, off + t * 4 + 2, none⟩ = some (.slice a.y d.k.length a.m) ∧ w.cell? ⟨b, off + t * 4 + 3, none⟩ = some (.int .i64 d.n)
  le : l.length ≤ maxLen
theorem DR6.below {w w' : World} {B : Nat} {p : Option Addr} {l : List D6} (h : DR6 w p l) (hb : Below B w w') (hB : w.heap.size ≤ B) : DR6 w' p l := by
  refine ⟨fun hne => ?_, h.le⟩
  obtain ⟨b, off, rfl, hc⟩ := h.mem hne
  refine ⟨b, off, rfl, fun t d hd => ?_⟩
  obtain ⟨a, h1, c0, c1, c2, c3⟩ := hc t d hd
  have k : ∀ {q : Addr} {v : Value}, w.cell? q = some v → w'.cell? q = some v := fun {q v} e => by
    rw [hb.cell (Nat.lt_of_lt_of_le (World.block_lt_of_cell? w _ e) hB)]; exact e
  exact ⟨a, h1.below hb hB, k c0, k c1, k c2, k c3⟩
theorem Tryz.cells6I : Tryz.prog.cellsOf 3 = 1 := by kernel_rfl
theorem Tryz.cells6P : Tryz.prog.cellsOf 31 = 1 := by kernel_rfl
theorem Tryz.cells6K : Tryz.prog.cellsOf 23 = 1 := by kernel_rfl
theorem Tryz.cells6D : Tryz.prog.cellsOf 33 = 4 := by kernel_rfl
section
variable {H : Type} {enc : TypeId × Value → H} {w : World}
theorem bools_open {fuel : Nat} {cs : List Value} {x : DataW H × List MemPlace} (h : DataW.trod enc Tryz.prog w 0 (fun _ => true) true fuel 23 cs = some x) : ∃ a c l, cs = [.slice a l.length c] ∧ BRow w a l ∧ l.length ≤ maxLen := by
  rcases Go.Deep.open_bools Tryz.underlying23 Tryz.underlying4 (by kernel_rfl) h with ⟨hcs, _⟩ | ⟨x, l, c, B, hcs, _, hl, hm, _, hcell⟩
  · exact ⟨none, 0, [], hcs, fun h => absurd rfl h, Nat.zero_le _⟩
  · refine ⟨some x, c, (List.range l).map B, by simpa using hcs, fun hne => ?_, by simp; omega⟩
    have h0 : 0 < l := by
      rcases Nat.eq_zero_or_pos l with h | h
      · subst h; simp at hne
      · exact h
    obtain ⟨b, off, spot⟩ := x
    have hc0 := hcell 0 (by omega)
    have hspot : spot = Option.none := by simpa [Addr.add] using World.cell?_spot hc0
    subst hspot
    refine ⟨b, off, rfl, fun i hi => ?_⟩
    have hi' : i < l := by simpa using hi
    have := hcell i (by omega)
    rw [addr_add] at this
    rw [this]
    simp [List.getD, hi']
set_option maxRecDepth 100000 in
theorem do_el {fuel : Nat} {cs : List Value} {x : DataW H × List MemPlace} (h : DataW.trod enc Tryz.prog w 0 (fun _ => true) true fuel 33 cs = some x) : ∃ d a, cs = (DV6.cells d a).toList ∧ DV6 w d a := by
  obtain ⟨xs, k, _, _, hl, hlen, hf'⟩ := DataW.trod_struct Tryz.underlying33 h
  rw [Tryz.cells6D] at hl
  match cs, hl with
  | [v0, v1, v2, v3], _ =>
    have t0 := hf' 0 _ rfl
    have t1 := hf' 1 _ rfl
    have t2 := hf' 2 _ rfl
    have t3 := hf' 3 _ rfl
    simp [Tryz.cells6I, Tryz.cells6P, Tryz.cells6K] at t0 t1 t2 t3
    match xs, hlen with
    | [y0, y1, y2, y3], _ =>
      simp only [List.getElem?_cons_zero, List.getElem?_cons_succ] at t0 t1 t2 t3
      obtain ⟨o, e0, _⟩ := DataW.trod_int Tryz.underlying3 t0
      obtain ⟨a, c, l, e1, hb⟩ := ops_open t1
      obtain ⟨y, m, kl, e2, hk, hkm⟩ := bools_open t2
      obtain ⟨z, e3, _⟩ := DataW.trod_int Tryz.underlying3 t3
      simp only [List.cons.injEq, and_true] at e0 e1 e2 e3
      subst e0 e1 e2 e3
      exact ⟨⟨o, l, kl, z⟩, ⟨a, c, y, m⟩, rfl, ⟨hb, hk, hkm⟩⟩
set_option maxRecDepth 100000 in
theorem dos_open6 {fuel : Nat} {cs : List Value} {x : DataW H × List MemPlace} (h : DataW.trod enc Tryz.prog w 0 (fun _ => true) true fuel 22 cs = some x) : ∃ p c l, cs = [.slice p l.length c] ∧ DR6 w p l := by
  rcases Go.Deep.open_slice Tryz.underlying22 h with ⟨hcs, _⟩ | ⟨x, len, cap, m, n, D, Pl, hcs, _, hl, hm, hmm, _, hr⟩
  · exact ⟨none, 0, [], hcs, ⟨fun h => absurd rfl h, Nat.zero_le _⟩⟩
  · simp only [if_true] at hmm
    subst hmm
    have each : ∀ i, i < len → ∃ d : D6, ∃ a, DV6 w d a ∧ w.cells? 0 (x.add (i * 4)) 4 = some (DV6.cells d a).toList := by
      intro i hi
      obtain ⟨cs', k1, k2⟩ := hr i (by omega)
      obtain ⟨d, a, rfl, hv⟩ := do_el k2
      refine ⟨d, a, hv, ?_⟩
      have k3 : w.cells? 0 (x.add (i * Tryz.prog.cellsOf 33)) (Tryz.prog.cellsOf 33) = some (DV6.cells d a).toList := k1
      rw [Tryz.cells6D] at k3
      exact k3
    obtain ⟨f, hf⟩ : ∃ f : Nat → D6, ∀ i, i < len → ∃ a, DV6 w (f i) a ∧ w.cells? 0 (x.add (i * 4)) 4 = some (DV6.cells (f i) a).toList :=
      ⟨fun i => if h : i < len then (each i h).choose else ⟨0, [], [], 0⟩, fun i h => by simp only [dif_pos h]; exact (each i h).choose_spec⟩
    refine ⟨some x, m, (List.range len).map f, by simpa using hcs, ⟨fun hne => ?_, by simp; omega⟩⟩
    have h0 : 0 < len := by
      rcases Nat.eq_zero_or_pos len with h | h
      · subst h; simp at hne
      · exact h
    have key : ∀ i a j v, w.cells? 0 (x.add (i * 4)) 4 = some (DV6.cells (f i) a).toList → (DV6.cells (f i) a).toList[j]? = some v → w.cell? ((x.add (i * 4)).add j) = some v := by
      intro i a j v e1 e2
      have hj : j < 4 := by have := (List.getElem?_eq_some_iff.1 e2).1; simpa [DV6.cells] using this
      rw [(World.cells?_some e1).2.2 j hj, e2]
    obtain ⟨b, off, spot⟩ := x
    have hspot : spot = Option.none := by
      obtain ⟨a, _, e⟩ := hf 0 h0
      have := key 0 a 0 _ e rfl
      simpa [Addr.add] using World.cell?_spot this
    subst hspot
    refine ⟨b, off, rfl, fun t d hd => ?_⟩
    have ht : t < len := by have := (List.getElem?_eq_some_iff.1 hd).1; simpa using this
    obtain rfl : f t = d := by simpa [ht] using hd
    obtain ⟨a, hv, e⟩ := hf t ht
    have k := fun j v => key t a j v e
    rw [addr_add] at k
    simp only [addr_add] at k
    exact ⟨a, hv, k 0 _ rfl, k 1 _ rfl, k 2 _ rfl, k 3 _ rfl⟩
end
#print axioms dos_open6
end Go.Proofs.YtmcgghjeocnpnaaGreatDoor
end
section
set_option linter.unusedVariables false
namespace Go.Proofs.YtmcgghjeocnpnaaGreatDoor
open Go.RowKit Go.Maps

def opB (o : Op6) : Nat := min o.k.length 262144 + min o.v.length 262144
def opsB (l : List Op6) : Nat := (l.map opB).sum
def goS (n s : Nat) : List D6 → Bool
  | [] => true
  | d :: r => if 2000 < d.l.length then false else if 2000 < n + d.l.length ∨ 262144 < s + opsB d.l then false else goS (n + d.l.length) (s + opsB d.l) r
def shr6 (l : List D6) : Bool := if 60 < l.length then false else goS 0 0 l
def sumN (l : List D6) : Nat := (l.map fun d => d.l.length).sum
def sumB (l : List D6) : Nat := (l.map fun d => opsB d.l).sum
theorem goS_sum : ∀ {l : List D6} {n s : Nat}, n ≤ 2000 → s ≤ 262144 → goS n s l = true → n + sumN l ≤ 2000 ∧ s + sumB l ≤ 262144
  | [], n, s, h1, h2, _ => ⟨by simpa [sumN] using h1, by simpa [sumB] using h2⟩
  | d :: r, n, s, h1, h2, h => by
    unfold goS at h
    split at h
    · cases h
    · split at h
      · cases h
      · rename_i h3 h4
        obtain ⟨a, b⟩ := goS_sum (by omega) (by omega) h
        refine ⟨?_, ?_⟩
        · have e : sumN (d :: r) = d.l.length + sumN r := by simp [sumN]
          omega
        · have e : sumB (d :: r) = opsB d.l + sumB r := by simp [sumB]
          omega
theorem shr6_sum {l : List D6} (h : shr6 l = true) : l.length ≤ 60 ∧ sumN l ≤ 2000 ∧ sumB l ≤ 262144 := by
  unfold shr6 at h
  split at h
  · cases h
  · obtain ⟨a, b⟩ := goS_sum (by omega) (by omega) h
    exact ⟨by omega, by omega, by omega⟩
theorem sumN_mem : ∀ {l : List D6} {d : D6}, d ∈ l → d.l.length ≤ sumN l ∧ opsB d.l ≤ sumB l
  | [], d, h => by cases h
  | a :: r, d, h => by
    have e1 : sumN (a :: r) = a.l.length + sumN r := by simp [sumN]
    have e2 : sumB (a :: r) = opsB a.l + sumB r := by simp [sumB]
    rcases List.mem_cons.1 h with rfl | h'
    · omega
    · have := sumN_mem h'
      omega
/-- How long a commit's record is. -/
theorem kf_sum : ∀ (l : List Op6) (t : Nat), (∀ o ∈ l, o.k.length ≤ 128 ∧ o.v.length ≤ 4096) → ((wrI l t).flatMap fun x => kfB x.k x.g x.v).length ≤ opsB l + l.length * 30
  | [], t, _ => by simp [wrI, opsB]
  | o :: r, t, h => by
    have ih := kf_sum r t (fun x hx => h x (List.mem_cons_of_mem _ hx))
    obtain ⟨h1, h2⟩ := h o List.mem_cons_self
    have e1 : opsB (o :: r) = opB o + opsB r := by simp [opsB]
    have e2 : opB o = o.k.length + o.v.length := by unfold opB; omega
    have f1 := (form_le o.k.length).2
    have f2 := (form_le o.v.length).2
    have e3 : ((wrI (o :: r) t).flatMap fun x => kfB x.k x.g x.v).length = (kfB o.k o.g o.v).length + ((wrI r t).flatMap fun x => kfB x.k x.g x.v).length := by simp [wrI]
    have e4 : (kfB o.k o.g o.v).length ≤ o.k.length + o.v.length + 30 := by
      unfold kfB
      split <;> simp <;> omega
    have e5 : (o :: r).length = r.length + 1 := rfl
    omega
theorem cmB_len (l : List Op6) (t : Nat) (h : ∀ o ∈ l, o.k.length ≤ 128 ∧ o.v.length ≤ 4096) : (cmB t (wrI l t)).length ≤ opsB l + l.length * 30 + 40 := by
  have f1 := (form_le t).2
  have f2 := (form_le (wrI l t).length).2
  have k := kf_sum l t h
  unfold cmB
  simp only [List.length_cons, List.length_append]
  omega
#print axioms cmB_len
#print axioms shr6_sum
end Go.Proofs.YtmcgghjeocnpnaaGreatDoor
end
section
set_option linter.unusedVariables false
set_option maxRecDepth 1000000
namespace Go.Proofs.YtmcgghjeocnpnaaGreatDoor
open Go.RowKit Go.Maps

theorem goS_at {l : List D6} {k : Nat} {d : D6} (h : l[k]? = some d) (n s : Nat) : goS n s (l.drop k) = if 2000 < d.l.length then false else if 2000 < n + d.l.length ∨ 262144 < s + opsB d.l then false else goS (n + d.l.length) (s + opsB d.l) (l.drop (k + 1)) := by
  have hk := (List.getElem?_eq_some_iff.1 h).1
  have e : l.drop k = d :: l.drop (k + 1) := by
    rw [List.drop_eq_getElem_cons hk]
    congr 1
    have := List.getElem?_eq_getElem hk
    rw [h] at this
    exact (Option.some.inj this).symm
  rw [e]
  rfl
theorem opsB_take {l : List Op6} {k : Nat} {o : Op6} (h : l[k]? = some o) : opsB (l.take (k + 1)) = opsB (l.take k) + opB o := by
  unfold opsB
  rw [List.take_add_one, h]
  simp
theorem opB_le (o : Op6) : opB o ≤ 524288 := by unfold opB; omega
theorem opsB_le (l : List Op6) : opsB l ≤ l.length * 524288 := by
  induction l with
  | nil => simp [opsB]
  | cons a r ih =>
    have e : opsB (a :: r) = opB a + opsB r := by simp [opsB]
    have := opB_le a
    simp only [List.length_cons]
    omega
set_option maxHeartbeats 4000000 in
theorem short6 (p : Option Addr) (c : Nat) (l : List D6) (w : World) (h : DR6 w p l) :
    Calls Tryz.prog 9 #[.slice p l.length c] w fun e w' => e = .returned (.bool (shr6 l)) ∧ Hid (Below w.heap.size w w') := by
  have hle := h.le
  unfold maxLen at hle
  by_cases h1 : 60 < l.length
  · have e1 : (60 : Int) < (l.length : Int) := by omega
    have HX : Hid (shr6 l = false) := by show _ = _; unfold shr6; rw [if_pos h1]
    go_enter Tryz.func9, Tryz.ntmps9
    go_wp2_with fail
    go_ret
    exact ⟨by rw [unhide HX]; rfl, Below.refl _ _⟩
  · have e1 : ¬ (60 : Int) < (l.length : Int) := by omega
    obtain ⟨X, hX⟩ : ∃ X, X = shr6 l := ⟨_, rfl⟩
    have HX0 : Hid (X = goS 0 0 (l.drop 0)) := by show _ = _; rw [hX]; unfold shr6; rw [if_neg h1]; simp
    rw [← hX]
    have HH := hide h
    clear hX h
    go_enter Tryz.func9, Tryz.ntmps9
    go_wp2_with fail
    go_loopw [3, 4, 14] (fun vo vs i wr => ∃ k n s : Nat, k ≤ l.length ∧ n ≤ 2000 ∧ s ≤ 262144 ∧ vo = .int .i64 (n : Int) ∧ vs = .int .i64 (s : Int) ∧ i = .int .i64 (k : Int) ∧ Hid (X = goS n s (l.drop k)) ∧ Hid (Below w.heap.size w wr)) (fun _ _ i _ => l.length - (intOf i).toNat)
    case atStart => exact ⟨0, 0, 0, Nat.zero_le _, Nat.zero_le _, Nat.zero_le _, rfl, rfl, rfl, HX0, Below.refl _ _⟩
    case round =>
      clear HX0
      obtain ⟨k, n, s, hk, hn, hs, rfl, rfl, rfl, HX, HB⟩ := hrel
      by_cases hlt : k < l.length
      · have hlt' : (k : Int) < (l.length : Int) := by omega
        obtain ⟨d, hd⟩ : ∃ d, l[k]? = some d := ⟨_, List.getElem?_eq_getElem hlt⟩
        obtain ⟨b, off, rfl, hc⟩ := ((unhide HH).below (unhide HB) (Nat.le_refl _)).mem (by intro e; subst e; simp at hd)
        obtain ⟨a, hv, c0, c1, c2, c3⟩ := hc k d hd
        obtain ⟨W, hW⟩ : ∃ W, W = wr.alloc (.cells #[.int .i64 d.o, .slice a.x d.l.length a.c, .slice a.y d.k.length a.m, .int .i64 d.n] 33) := ⟨_, rfl⟩
        obtain ⟨Z, hZ⟩ : ∃ Z, Z = wr.heap.size := ⟨_, rfl⟩
        have hbW : Below wr.heap.size wr W := by rw [hW]; exact (Below.refl _ _).alloc (Nat.le_refl _) _
        have hrW : W.heap[Z]? = some (.cells #[.int .i64 d.o, .slice a.x d.l.length a.c, .slice a.y d.k.length a.m, .int .i64 d.n] 33 (0, 0)) := by rw [hZ, hW]; exact heap_alloc_new _ _
        have d1 : W.cell? ⟨Z, 1, none⟩ = some (.slice a.x d.l.length a.c) := cell_of_row _ _ _ _ _ _ hrW
        have HAT := hide (goS_at hd n s)
        have HBW : Hid (Below w.heap.size w W) := (unhide HB).trans (hbW.mono (unhide HB).size)
        have HOP : Hid (OpR6 W a.x d.l) := hv.l.below hbW (Nat.le_refl _)
        have HZ : Hid (Z < W.heap.size) := (Array.getElem?_eq_some_iff.1 hrW).1
        have hdl := hv.l.le
        unfold maxLen at hdl
        clear hc hbW hrW hv HB
        go_upto_region 7 with fail
        rw [← hW, ← hZ]
        clear hW hZ c0 c1 c2 c3
        by_cases hbig : 2000 < d.l.length
        · have e2 : (2000 : Int) < (d.l.length : Int) := by omega
          have HF : Hid (X = false) := by show _ = _; rw [unhide HX, unhide HAT, if_pos hbig]
          go_wp2_with fail
          go_ret
          exact ⟨by rw [unhide HF]; rfl, unhide HBW⟩
        · have e2 : ¬ (2000 : Int) < (d.l.length : Int) := by omega
          obtain ⟨ax, ac, ay, am⟩ := a
          simp only at d1 HOP
          generalize hL : d.l = L at *
          clear hL
          obtain ⟨w9, h9⟩ : ∃ w9 : World, w9 = W := ⟨_, rfl⟩
          rw [← h9] at d1 HBW HOP HZ
          rw [← h9]
          clear h9
          go_wp2_with fail
          go_loopw [4, 30] (fun vs i wr => ∃ j s2 : Nat, j ≤ L.length ∧ s2 ≤ 262144 + j * 524288 ∧ vs = .int .i64 (s2 : Int) ∧ i = .int .i64 (j : Int) ∧ Hid (s2 = s + opsB (L.take j)) ∧ Hid (Below w9.heap.size w9 wr)) (fun _ i _ => L.length - (intOf i).toNat)
          case atStart => exact ⟨0, s, Nat.zero_le _, by omega, rfl, rfl, by show _ = _; simp [opsB], Below.refl _ _⟩
          case round =>
            obtain ⟨j, s2, hj, hs2, rfl, rfl, HS2, HB2⟩ := hrel
            by_cases hlt2 : j < L.length
            · have hlt2' : (j : Int) < (L.length : Int) := by omega
              obtain ⟨o, ho⟩ : ∃ o, L[j]? = some o := ⟨_, List.getElem?_eq_getElem hlt2⟩
              obtain ⟨b2, off2, rfl, hc⟩ := ((unhide HOP).below (unhide HB2) (Nat.le_refl _)).mem (by intro e; subst e; simp at ho)
              obtain ⟨c0, c1, c2⟩ := hc j o ho
              obtain ⟨W2, hW2⟩ : ∃ W2, W2 = wr.alloc (.cells #[.string (str o.k), .bool o.g, .string (str o.v)] 55) := ⟨_, rfl⟩
              obtain ⟨Z2, hZ2⟩ : ∃ Z2, Z2 = wr.heap.size := ⟨_, rfl⟩
              have hbW2 : Below wr.heap.size wr W2 := by rw [hW2]; exact (Below.refl _ _).alloc (Nat.le_refl _) _
              have hrW2 : W2.heap[Z2]? = some (.cells #[.string (str o.k), .bool o.g, .string (str o.v)] 55 (0, 0)) := by rw [hZ2, hW2]; exact heap_alloc_new _ _
              have f0 : W2.cell? ⟨Z2, 0, none⟩ = some (.string (str o.k)) := cell_of_row _ _ _ _ _ _ hrW2
              have f2 : W2.cell? ⟨Z2, 2, none⟩ = some (.string (str o.v)) := cell_of_row _ _ _ _ _ _ hrW2
              obtain ⟨sk, sv⟩ := (unhide HOP).sz o (List.mem_of_getElem? ho)
              unfold maxLen at sk sv
              have hk1 : (str o.k).size = o.k.length := rfl
              have hv1 : (str o.v).size = o.v.length := rfl
              obtain ⟨q1, hq1⟩ : ∃ q1 : Nat, q1 = min o.k.length 262144 := ⟨_, rfl⟩
              obtain ⟨q2, hq2⟩ : ∃ q2 : Nat, q2 = min o.v.length 262144 := ⟨_, rfl⟩
              have e3 : (if (262144 : Int) < (o.k.length : Int) then (262144 : Int) else (o.k.length : Int)) = (q1 : Int) := by rw [hq1]; split <;> omega
              have e4 : (if (262144 : Int) < (o.v.length : Int) then (262144 : Int) else (o.v.length : Int)) = (q2 : Int) := by rw [hq2]; split <;> omega
              have HQ : Hid (s2 + (q1 + q2) = s + opsB (L.take (j + 1))) := by
                show _ = _
                rw [opsB_take ho, unhide HS2, hq1, hq2]
                unfold opB
                omega
              have hb1 : q1 ≤ 262144 := by omega
              have hb2 : q2 ≤ 262144 := by omega
              have HB3 : Hid (Below w9.heap.size w9 W2) := (unhide HB2).trans (hbW2.mono (unhide HB2).size)
              clear hq1 hq2 hc hbW2 hrW2 HB2 ho
              go_upto_region 13 with fail
              rw [← hW2, ← hZ2]
              clear hW2 hZ2 c0 c1 c2
              go_wp2_with fail
              go_roundw
              case rel => exact ⟨j + 1, s2 + (q1 + q2), by omega, by omega, by go_num, by go_num, HQ, HB3⟩
              case measure => simp [intOf]; omega
            · obtain rfl : j = L.length := by omega
              have HS3 : Hid (s2 = s + opsB L) := by have := unhide HS2; rw [List.take_length] at this; exact this
              obtain ⟨q, hq⟩ : ∃ q : Nat, q = n + L.length := ⟨_, rfl⟩
              have hqi : (n : Int) + (L.length : Int) = (q : Int) := by omega
              have HQN := hide hq
              clear HS2
              have HBF : Hid (Below w.heap.size w wr) := (unhide HBW).trans ((unhide HB2).mono (unhide HBW).size)
              have hq2 : q ≤ 4000 := by omega
              clear hq
              by_cases g1 : 2000 < q
              · have g2 : (2000 : Int) < (q : Int) := by omega
                have HF : Hid (X = false) := by show _ = _; rw [unhide HX, unhide HAT, if_neg hbig, if_pos (.inl (by rw [← unhide HQN]; exact g1))]
                go_wp2_with fail
                go_ret
                exact ⟨by rw [unhide HF]; rfl, unhide HBF⟩
              · have g2 : ¬ (2000 : Int) < (q : Int) := by omega
                by_cases g3 : 262144 < s2
                · have g4 : (262144 : Int) < (s2 : Int) := by omega
                  have HF : Hid (X = false) := by show _ = _; rw [unhide HX, unhide HAT, if_neg hbig, if_pos (.inr (by rw [← unhide HS3]; exact g3))]
                  go_wp2_with fail
                  go_ret
                  exact ⟨by rw [unhide HF]; rfl, unhide HBF⟩
                · have g4 : ¬ (262144 : Int) < (s2 : Int) := by omega
                  have HF : Hid (X = goS q s2 (l.drop (k + 1))) := by
                    show _ = _
                    have z1 := unhide HQN
                    have z2 := unhide HS3
                    rw [unhide HX, unhide HAT, if_neg hbig, if_neg (by omega), z1, z2]
                  go_wp2_with fail
                  go_roundw
                  case rel => exact ⟨k + 1, q, s2, by omega, by omega, by omega, by go_num, by go_num, by go_num, HF, HBF⟩
                  case measure => simp [intOf]; omega
      · obtain rfl : k = l.length := by omega
        have HF : Hid (X = true) := by show _ = _; rw [unhide HX, List.drop_length]; rfl
        go_wp2_with fail
        go_ret
        exact ⟨by rw [unhide HF]; rfl, unhide HB⟩
#print axioms short6
end Go.Proofs.YtmcgghjeocnpnaaGreatDoor
end
