/-
  disk: a row of calls; does, short, made.
-/
import Derived.Test.YtkhpjlgbiicdcaaDskX
set_option linter.unusedVariables false
namespace Go.Proofs.Ytkhpjlgbiicdcaa
open Go.RowKit Go.Maps

/-- A call of a disk. -/
structure Dm where
  o : Int
  n : Nm
  b : List UInt8
  z : Int
  k : List Bool
def Dm.r (d : Dm) : Nat := (d.o % 8).toNat
def Md.doesE (M : Md) (d : Dm) : Int := match d.r with
  | 3 => M.cutE d.n d.z
  | 4 => M.thereE d.n
  | 5 => M.thereE d.n
  | 6 => 0
  | 7 => 0
  | _ => M.writeE d.n d.b.length
def Md.does (M : Md) (d : Dm) : Md := match d.r with
  | 3 => M.cut d.n d.z
  | 4 => M.drop d.n
  | 5 => M.sync d.n
  | 6 => M.flush
  | 7 => M.crash d.k d.z
  | _ => M.write d.n d.b

/-- Where a call's two rows lie. -/
structure Da where
  x : Option Addr
  c : Nat
  y : Option Addr
  m : Nat
/-- A call that lies at an address, as a value. -/
structure DoV (w : World) (d : Dm) (a : Da) : Prop where
  n : d.n.length ≤ maxLen
  b : Bs w a.x a.c d.b
  k : BRow w a.y d.k
  kl : d.k.length ≤ maxLen
def DoV.cells (d : Dm) (a : Da) : Array Value := #[.int .i64 d.o, .string (str d.n), .slice a.x d.b.length a.c, .int .i64 d.z, .slice a.y d.k.length a.m]
theorem DoV.below {w w' : World} {B : Nat} {d : Dm} {a : Da} (h : DoV w d a) (hb : Below B w w') (hB : w.heap.size ≤ B) : DoV w' d a := ⟨h.n, h.b.below hb hB, h.k.below hb hB, h.kl⟩
/-- A row of calls. -/
structure DoR (w : World) (p : Option Addr) (l : List Dm) : Prop where
  mem : l ≠ [] → ∃ b off, p = some ⟨b, off, none⟩ ∧ ∀ t d, l[t]? = some d → ∃ a, DoV w d a ∧ w.cell? ⟨b, off + t * 5, none⟩ = some (.int .i64 d.o) ∧ w.cell? ⟨b, off + t * 5 + 1, none⟩ = some (.string (str d.n)) ∧ w.cell? ⟨b, off + t * 5 + 2, none⟩ = some (.slice a.x d.b.length a.c) ∧ w.cell? ⟨b, off + t * 5 + 3, none⟩ = some (.int .i64 d.z) ∧ w.cell? ⟨b, off + t * 5 + 4, none⟩ = some (.slice a.y d.k.length a.m)
  le : l.length ≤ maxLen
theorem DoR.below {w w' : World} {B : Nat} {p : Option Addr} {l : List Dm} (h : DoR w p l) (hb : Below B w w') (hB : w.heap.size ≤ B) : DoR w' p l := by
  refine ⟨fun hne => ?_, h.le⟩
  obtain ⟨b, off, rfl, hc⟩ := h.mem hne
  refine ⟨b, off, rfl, fun t d hd => ?_⟩
  obtain ⟨a, h1, c0, c1, c2, c3, c4⟩ := hc t d hd
  have k : ∀ {q : Addr} {v : Value}, w.cell? q = some v → w'.cell? q = some v := fun {q v} e => by
    rw [hb.cell (Nat.lt_of_lt_of_le (World.block_lt_of_cell? w _ e) hB)]; exact e
  exact ⟨a, h1.below hb hB, k c0, k c1, k c2, k c3, k c4⟩
def capB (d : Dm) : Nat := min d.b.length 32769
def sumB (l : List Dm) : Nat := (l.map capB).sum
def shortB (l : List Dm) : Bool := decide (l.length ≤ 120) && decide (sumB l ≤ 32768)
theorem sumB_take (l : List Dm) (k : Nat) (d : Dm) (h : l[k]? = some d) : sumB (l.take (k + 1)) = sumB (l.take k) + capB d := by
  unfold sumB
  rw [List.take_add_one, h]
  simp
theorem sumB_le (l : List Dm) : sumB l ≤ l.length * 32769 := by
  unfold sumB
  induction l with
  | nil => simp
  | cons d l ih => simp [capB] at ih ⊢; omega
theorem capB_le {l : List Dm} {d : Dm} (h : d ∈ l) : capB d ≤ sumB l := by
  unfold sumB
  induction l with
  | nil => cases h
  | cons e l ih =>
    simp at h ⊢
    rcases h with rfl | h
    · omega
    · have := ih h; omega
theorem shortB_len {l : List Dm} (h : shortB l = true) : l.length ≤ 120 ∧ ∀ d ∈ l, d.b.length ≤ 32768 := by
  unfold shortB at h
  simp at h
  refine ⟨h.1, fun d hd => ?_⟩
  have := capB_le hd
  unfold capB at this
  omega

set_option maxRecDepth 20000 in
set_option maxHeartbeats 4000000 in
theorem short_any (p : Option Addr) (c : Nat) (l : List Dm) (w : World) (h : DoR w p l) :
    Calls Try.prog 8 #[.slice p l.length c] w fun e w' => e = .returned (.bool (shortB l)) ∧ w' = w := by
  have hle := h.le
  unfold maxLen at hle
  go_enter Try.func8, Try.ntmps8
  go_wp2
  go_loopw [3, 4] (fun v i wr => ∃ k m : Nat, k ≤ l.length ∧ k ≤ 121 ∧ i = .int .i64 (k : Int) ∧ v = .int .i64 (m : Int) ∧ Hid (m = sumB (l.take k)) ∧ wr = w) (fun _ i _ => l.length - (intOf i).toNat)
  case atStart => exact ⟨0, 0, Nat.zero_le _, Nat.zero_le _, rfl, rfl, rfl, rfl⟩
  case round =>
    obtain ⟨k, m, hk, hk2, rfl, rfl, HM, rfl⟩ := hrel
    have hm : m ≤ 4000000 := by
      have h1 := sumB_le (l.take k)
      rw [← unhide HM, List.length_take, Nat.min_eq_left hk] at h1
      omega
    by_cases hlt : k < l.length
    · by_cases hlt2 : k ≤ 120
      · obtain ⟨d, hd⟩ : ∃ d, l[k]? = some d := ⟨_, List.getElem?_eq_getElem hlt⟩
        obtain ⟨b, off, rfl, hc⟩ := h.mem (by intro e; subst e; simp at hd)
        obtain ⟨a, hv, -, -, c2, -, -⟩ := hc k d hd
        have hbl := hv.b.most
        unfold maxLen at hbl
        have e1 : (k : Int) < (l.length : Int) := by omega
        have e2 : (k : Int) ≤ 120 := by omega
        obtain ⟨q, hq⟩ : ∃ q : Nat, q = capB d := ⟨_, rfl⟩
        have e3 : (if 32769 < (d.b.length : Int) then 32769 else (d.b.length : Int)) = (q : Int) := by rw [hq]; unfold capB; split <;> omega
        have HQ : Hid (m + q = sumB (l.take (k + 1))) := by show _ = _; rw [sumB_take l k d hd, hq, unhide HM]
        have hq2 : q ≤ 32769 := by rw [hq]; unfold capB; omega
        clear hq hc hd
        go_wp2
        go_roundw
        case rel => exact ⟨k + 1, m + q, by omega, by omega, by go_num, by go_num, HQ, trivial⟩
        case measure => simp [intOf]; omega
      · have e1 : (k : Int) < (l.length : Int) := by omega
        have e2 : ¬ (k : Int) ≤ 120 := by omega
        have e3 : ¬ (l.length : Int) ≤ 120 := by omega
        have HF : Hid (shortB l = false) := by show _ = _; unfold shortB; rw [decide_eq_false (by omega)]; rfl
        go_wp2
        go_ret
        exact ⟨by rw [unhide HF]; rfl, rfl⟩
    · obtain rfl : k = l.length := by omega
      have HF : Hid (shortB l = (decide ((l.length : Int) ≤ 120) && decide ((m : Int) ≤ 32768))) := by
        show _ = _
        unfold shortB
        have := unhide HM
        rw [List.take_length] at this
        rw [← this]
        congr 1 <;> simp <;> omega
      by_cases h1 : l.length ≤ 120
      · have e1 : (l.length : Int) ≤ 120 := by omega
        go_wp2
        go_ret
        exact ⟨by rw [unhide HF]; simp [e1], rfl⟩
      · have e1 : ¬ (l.length : Int) ≤ 120 := by omega
        have HG : Hid (shortB l = false) := by show _ = _; rw [unhide HF, decide_eq_false e1]; rfl
        go_wp2
        go_ret
        exact ⟨by rw [unhide HG]; rfl, rfl⟩
#print axioms short_any

theorem cut_k (g : Nat → Tg) (i D : Nat) (M : Md) (N : Nat) (n : Nm) (z : Int) (w : World) (h : DK w g i D M N) (hN : N ≤ 1400) (hn : n.length ≤ maxLen) :
    Calls Try.prog 30 #[.pointer (some ⟨D, 0, none⟩), .string (str n), .int .i64 z] w fun e w' => e = .returned (.int .i64 (M.cutE n z)) ∧ RK w w' g i D (M.cut n z) (N + 1) := by
  obtain ⟨J, h1, h2, rfl⟩ := h
  exact (cut_any g i J M N n z w h1 h2 hN hn).mono (fun e w' h => ⟨h.1, h.2.rk rfl⟩)
theorem drop_k (g : Nat → Tg) (i D : Nat) (M : Md) (N : Nat) (n : Nm) (w : World) (h : DK w g i D M N) (hN : N ≤ 1400) (hn : n.length ≤ maxLen) :
    Calls Try.prog 31 #[.pointer (some ⟨D, 0, none⟩), .string (str n)] w fun e w' => e = .returned (.int .i64 (M.thereE n)) ∧ RK w w' g i D (M.drop n) (N + 1) := by
  obtain ⟨J, h1, h2, rfl⟩ := h
  exact (drop_any g i J M N n w h1 h2 hN hn).mono (fun e w' h => ⟨h.1, h.2.rk rfl⟩)
theorem flush_k (g : Nat → Tg) (i D : Nat) (M : Md) (N : Nat) (w : World) (h : DK w g i D M N) (hN : N ≤ 1400) :
    Calls Try.prog 32 #[.pointer (some ⟨D, 0, none⟩)] w fun e w' => e = .returned (.int .i64 0) ∧ RK w w' g i D M.flush (N + 1) := by
  obtain ⟨J, h1, h2, rfl⟩ := h
  exact (flush_any g i J M N w h1 h2 hN).mono (fun e w' h => ⟨h.1, h.2.rk rfl⟩)
theorem used_k (g : Nat → Tg) (i D : Nat) (M : Md) (N : Nat) (w : World) (h : DK w g i D M N) :
    Calls Try.prog 13 #[.pointer (some ⟨D, 0, none⟩)] w fun e w' => e = .returned (.int .i64 M.used) ∧ w' = w := by
  obtain ⟨J, h1, h2, rfl⟩ := h
  exact used_any g i J M w h1
theorem rooms_k (g : Nat → Tg) (i D : Nat) (M : Md) (N : Nat) (w : World) (h : DK w g i D M N) :
    Calls Try.prog 14 #[.pointer (some ⟨D, 0, none⟩)] w fun e w' => e = .returned (.int .i64 M.room) ∧ w' = w := by
  obtain ⟨J, h1, h2, rfl⟩ := h
  exact rooms_any g i J M w h1
theorem RK.behind {w w1 w' : World} {g : Nat → Tg} {i D : Nat} {M : Md} {N : Nat} (hb : Below w.heap.size w w1) (h : RK w1 w' g i D M N) : RK w w' g i D M N := by
  obtain ⟨g', h1, h2⟩ := h
  exact ⟨g', h1, (St.ofBelow g _ hb).trans h2⟩

set_option maxRecDepth 20000 in
set_option maxHeartbeats 4000000 in
theorem does_k (g : Nat → Tg) (i D : Nat) (M : Md) (N : Nat) (d : Dm) (a : Da) (w : World) (h : DK w g i D M N) (hN : N ≤ 1400) (hv : DoV w d a) (hl : d.b.length ≤ 65536) :
    Calls Try.prog 15 #[.pointer (some ⟨D, 0, none⟩), .agg #[.int .i64 d.o, .string (str d.n), .slice a.x d.b.length a.c, .int .i64 d.z, .slice a.y d.k.length a.m]] w fun e w' => e = .returned (.int .i64 (M.doesE d)) ∧ RK w w' g i D (M.does d) (N + 1) := by
  have hb : Below w.heap.size w (w.alloc (.cells #[.int .i64 d.o, .string (str d.n), .slice a.x d.b.length a.c, .int .i64 d.z, .slice a.y d.k.length a.m] 36)) := (Below.refl _ _).alloc (Nat.le_refl _) _
  have hx := h.below hb
  have hV := hide (hv.below hb (Nat.le_refl _))
  have HB := hide hb
  obtain ⟨r, h8, hr, h9⟩ := op8 d.o
  have HR : Hid (d.r = r) := h9.symm
  obtain ⟨E, hE⟩ : ∃ E, E = M.doesE d := ⟨_, rfl⟩
  obtain ⟨R, hR⟩ : ∃ R, R = M.does d := ⟨_, rfl⟩
  rw [← hE, ← hR]
  have HE := hide hE
  have HR2 := hide hR
  clear hE hR h9 hb hv h
  go_enter Try.func15, Try.ntmps15
  match r, h8 with
  | 0, _ =>
    have hr : wrap64 ((IntKind.u64.wrap d.o).tmod 8) = 0 := hr
    go_wp2_with fail
    refine (write_k g i D M N d.n a.x a.c d.b _ hx hN (unhide hV).n (unhide hV).b hl).mono ?_
    rintro e w' ⟨rfl, HK⟩
    have HK2 := hide HK
    clear HK
    go_wp2
    go_ret
    refine ⟨?_, ?_⟩
    · rw [unhide HE]; unfold Md.doesE; rw [unhide HR]; rfl
    · rw [unhide HR2]; unfold Md.does; rw [unhide HR]; exact (unhide HK2).behind (unhide HB)
  | 1, _ =>
    have hr : wrap64 ((IntKind.u64.wrap d.o).tmod 8) = 1 := hr
    go_wp2_with fail
    refine (write_k g i D M N d.n a.x a.c d.b _ hx hN (unhide hV).n (unhide hV).b hl).mono ?_
    rintro e w' ⟨rfl, HK⟩
    have HK2 := hide HK
    clear HK
    go_wp2
    go_ret
    refine ⟨?_, ?_⟩
    · rw [unhide HE]; unfold Md.doesE; rw [unhide HR]; rfl
    · rw [unhide HR2]; unfold Md.does; rw [unhide HR]; exact (unhide HK2).behind (unhide HB)
  | 2, _ =>
    have hr : wrap64 ((IntKind.u64.wrap d.o).tmod 8) = 2 := hr
    go_wp2_with fail
    refine (write_k g i D M N d.n a.x a.c d.b _ hx hN (unhide hV).n (unhide hV).b hl).mono ?_
    rintro e w' ⟨rfl, HK⟩
    have HK2 := hide HK
    clear HK
    go_wp2
    go_ret
    refine ⟨?_, ?_⟩
    · rw [unhide HE]; unfold Md.doesE; rw [unhide HR]; rfl
    · rw [unhide HR2]; unfold Md.does; rw [unhide HR]; exact (unhide HK2).behind (unhide HB)
  | 3, _ =>
    have hr : wrap64 ((IntKind.u64.wrap d.o).tmod 8) = 3 := hr
    go_wp2_with fail
    refine (cut_k g i D M N d.n d.z _ hx hN (unhide hV).n).mono ?_
    rintro e w' ⟨rfl, HK⟩
    have HK2 := hide HK
    clear HK
    go_wp2
    go_ret
    refine ⟨?_, ?_⟩
    · rw [unhide HE]; unfold Md.doesE; rw [unhide HR]; rfl
    · rw [unhide HR2]; unfold Md.does; rw [unhide HR]; exact (unhide HK2).behind (unhide HB)
  | 4, _ =>
    have hr : wrap64 ((IntKind.u64.wrap d.o).tmod 8) = 4 := hr
    go_wp2_with fail
    refine (drop_k g i D M N d.n _ hx hN (unhide hV).n).mono ?_
    rintro e w' ⟨rfl, HK⟩
    have HK2 := hide HK
    clear HK
    go_wp2
    go_ret
    refine ⟨?_, ?_⟩
    · rw [unhide HE]; unfold Md.doesE; rw [unhide HR]; rfl
    · rw [unhide HR2]; unfold Md.does; rw [unhide HR]; exact (unhide HK2).behind (unhide HB)
  | 5, _ =>
    have hr : wrap64 ((IntKind.u64.wrap d.o).tmod 8) = 5 := hr
    go_wp2_with fail
    refine (sync_k g i D M N d.n _ hx hN (unhide hV).n).mono ?_
    rintro e w' ⟨rfl, HK⟩
    have HK2 := hide HK
    clear HK
    go_wp2
    go_ret
    refine ⟨?_, ?_⟩
    · rw [unhide HE]; unfold Md.doesE; rw [unhide HR]; rfl
    · rw [unhide HR2]; unfold Md.does; rw [unhide HR]; exact (unhide HK2).behind (unhide HB)
  | 6, _ =>
    have hr : wrap64 ((IntKind.u64.wrap d.o).tmod 8) = 6 := hr
    go_wp2_with fail
    refine (flush_k g i D M N _ hx hN).mono ?_
    rintro e w' ⟨rfl, HK⟩
    have HK2 := hide HK
    clear HK
    go_wp2
    go_ret
    refine ⟨?_, ?_⟩
    · rw [unhide HE]; unfold Md.doesE; rw [unhide HR]; rfl
    · rw [unhide HR2]; unfold Md.does; rw [unhide HR]; exact (unhide HK2).behind (unhide HB)
  | 7, _ =>
    have hr : wrap64 ((IntKind.u64.wrap d.o).tmod 8) = 7 := hr
    go_wp2_with fail
    refine (crash_k g i D M N a.y d.k a.m d.k.length d.z _ hx hN (hide rfl) (unhide hV).k (unhide hV).kl).mono ?_
    rintro e w' ⟨rfl, HK⟩
    have HK2 := hide HK
    clear HK
    go_wp2
    go_ret
    refine ⟨?_, ?_⟩
    · rw [unhide HE]; unfold Md.doesE; rw [unhide HR]; rfl
    · rw [unhide HR2]; unfold Md.does; rw [unhide HR]; exact (unhide HK2).behind (unhide HB)
#print axioms does_k
def Md.runs (M : Md) (l : List Dm) : Md := l.foldl Md.does M
theorem Md.runs_take (M : Md) (l : List Dm) (k : Nat) (d : Dm) (h : l[k]? = some d) : M.runs (l.take (k + 1)) = (M.runs (l.take k)).does d := by
  unfold Md.runs
  rw [List.take_add_one, h, List.foldl_append]
  rfl
theorem mod20 (o : Int) : ∃ z : Int, 0 ≤ z ∧ z < 1048576 ∧ wrap64 ((IntKind.u64.wrap o).tmod 1048576) = z ∧ z = o % 1048576 := by
  have e : IntKind.u64.wrap o = o % 18446744073709551616 := by simp [IntKind.wrap, IntKind.bits, IntKind.signed]
  have h0 : 0 ≤ o % 18446744073709551616 := Int.emod_nonneg _ (by omega)
  have e2 : (o % 18446744073709551616).tmod 1048576 = o % 18446744073709551616 % 1048576 := Int.tmod_eq_emod_of_nonneg h0
  refine ⟨o % 1048576, by omega, by omega, ?_, rfl⟩
  rw [e, e2]
  have e3 : o % 18446744073709551616 % 1048576 = o % 1048576 := by omega
  rw [e3, IntWalk.wrap64_in _ (by omega)]

set_option maxRecDepth 20000 in
set_option maxHeartbeats 4000000 in
theorem made_k (w0 : World) (g : Nat → Tg) (i : Nat) (room : Int) (p : Option Addr) (c : Nat) (l : List Dm) (w : World) (hR : DoR w0 p l) (hL : LW w0 w g) :
    Calls Try.prog 7 #[.int .i64 room, .slice p l.length c] w fun e w' => ∃ D g', e = .returned (.tuple #[.pointer (some ⟨D, 0, none⟩), .bool (shortB l)]) ∧ (shortB l = true → DK w' g' i D ((Md.new (room % 1048576)).runs l) l.length) ∧ LW w0 w' g' ∧ St w w' g g' (fun t => t.of i) := by
  obtain ⟨z, z0, z1, hz, hzr⟩ := mod20 room
  rw [← hzr]
  clear hzr
  have hle := hR.le
  unfold maxLen at hle
  go_enter Try.func7, Try.ntmps7
  go_wp2_with fail
  refine (new_k w0 g i z w z0 (by omega) hL).mono ?_
  rintro e w1 ⟨D, g1, rfl, hD1, hL1, hb1, hg1⟩
  have HS1 := hide ((St.ofBelow g (fun t => t.of i) hb1).tag hg1)
  have HD1 := hide hD1
  have HL1 := hide hL1
  clear hD1 hb1 hg1 hL
  go_wp2_with fail
  refine (short_any p c l w1 (hR.below hL1.below (Nat.le_refl _))).mono ?_
  rintro e w1' ⟨rfl, rfl⟩
  clear hL1
  cases hsb : shortB l with
  | false =>
    have HSB := hide hsb
    clear hsb
    go_wp2
    go_ret2
    exact ⟨D, g1, by rw [unhide HSB]; rfl, (fun (h : shortB l = true) => by rw [unhide HSB] at h; cases h), unhide HL1, unhide HS1⟩
  | true =>
    have HSB := hide hsb
    clear hsb
    go_wp2
    obtain ⟨hl120, hlb⟩ := shortB_len (unhide HSB)
    go_loopw [28] (fun v wr => ∃ (k : Nat) (gk : Nat → Tg), k ≤ l.length ∧ v = .int .i64 (k : Int) ∧ Hid (DK wr gk i D ((Md.new z).runs (l.take k)) k) ∧ Hid (LW w0 wr gk) ∧ Hid (St w wr g gk (fun t => t.of i))) (fun v _ => l.length - (intOf v).toNat)
    case atStart => exact ⟨0, g1, Nat.zero_le _, rfl, HD1, HL1, HS1⟩
    case round =>
      obtain ⟨k, gk, hk, rfl, HD, HL, HS⟩ := hrel
      by_cases hlt : k < l.length
      · have hlt2 : (k : Int) < (l.length : Int) := by omega
        obtain ⟨d, hd⟩ : ∃ d, l[k]? = some d := ⟨_, List.getElem?_eq_getElem hlt⟩
        obtain ⟨b, off, hp, hc⟩ := (hR.below (unhide HL).below (Nat.le_refl _)).mem (by intro e; subst e; simp at hd)
        obtain ⟨a, hv, c0, c1, c2, c3, c4⟩ := hc k d hd
        subst hp
        have hbl := hlb d (List.mem_of_getElem? hd)
        have HX := hide hd
        have HV := hide hv
        clear hd hc hv HS1 HD1 HL1 HSB
        go_wp2_with fail
        have hbx : Below wr.heap.size wr (wr.alloc (.cells #[.int .i64 d.o, .string (str d.n), .slice a.x d.b.length a.c, .int .i64 d.z, .slice a.y d.k.length a.m] 36)) := (Below.refl _ _).alloc (Nat.le_refl _) _
        refine (does_k gk i D _ k d a _ ((unhide HD).below hbx) (by omega) ((unhide HV).below hbx (Nat.le_refl _)) (by omega)).mono ?_
        rintro e w2 ⟨rfl, g2, h2, s2⟩
        have HD2 := hide h2
        have HL2 := hide (((unhide HL).bel hbx).st s2)
        have HS2 := hide (((unhide HS).trans (St.ofBelow gk _ hbx)).trans s2)
        clear c0 c1 c2 c3 c4 h2 s2 hbx
        go_wp2
        go_roundw
        case rel => exact ⟨k + 1, g2, by omega, by go_num, by rw [Md.runs_take _ _ _ _ (unhide HX)]; exact HD2, HL2, HS2⟩
        case measure => simp [intOf]; omega
      · obtain rfl : k = l.length := by omega
        go_wp2
        go_ret2
        refine ⟨D, gk, by rw [unhide HSB]; rfl, (fun _ => ?_), unhide HL, unhide HS⟩
        have := unhide HD
        rw [List.take_length] at this
        exact this
#print axioms made_k
end Go.Proofs.Ytkhpjlgbiicdcaa
