/-
  msg: the document's Check.; msg: the document's Check of a patch.; msg: the document's Check of a push.; msg: the document's Check of any message.
-/
import Derived.Test.YtmpjeahibfdehaaGreatDoorPkMtesbl
import Derived.Test.YtmpjeahibfdehaaGreatDoorPkMtesbi
import Derived.Test.YtmpjeahibfdehaaGreatDoorPkMtesbk
import Derived.BigRegion
import Derived.BigQuiet
import Derived.Deep.QuietTactic
section
set_option linter.unusedVariables false
set_option maxRecDepth 1000000
namespace Go.Proofs.YtmpjeahibfdehaaGreatDoor
open Go.RowKit

/-- What it owes. -/
def CkO (m : Mg) (a : Option Addr) (n c : Nat) (w : World) : Prop := Calls Tryz.prog 23 #[mgV m a n c] w fun e w' => e = .returned (.int .i64 (if mayBeM m then 0 else 130)) ∧ Hid (Below w.heap.size w w')
theorem wr_lo {z : Int} (h1 : -9223372036854775808 ≤ z) (h2 : z ≤ 9223372036854775807) : IntKind.i64.wrap z = z := by
 simp [IntKind.wrap, IntKind.bits, IntKind.signed]; omega
theorem wr_hi {z : Int} (h1 : 9223372036854775807 < z) (h2 : z ≤ 9223372036854776000) : IntKind.i64.wrap z < 0 := by
 simp [IntKind.wrap, IntKind.bits, IntKind.signed]; omega
/-- The document's way to say that a push's mutations are its client's, one behind the other. -/
def chkX (m : Mg) (i : Nat) (y : Lg) : Bool := decide (y.c = m.c) && (decide (i = 0) || (decide (1 < y.id) && decide (y.id - 1 = ((m.l[i - 1]?).map Lg.id).getD 0)))
def ckU (m : Mg) (q : Nat) : Bool := (List.range q).all fun i => (m.l[i]?.map (chkX m i)).getD true
theorem ckU_step {m : Mg} {q : Nat} {x : Lg} (h : m.l[q]? = some x) : ckU m (q + 1) = (ckU m q && chkX m q x) := by
 unfold ckU
 rw [List.range_succ, List.all_append]
 simp [h]
theorem push_ck {m : Mg} (hi : MiZ m) : isPushB m = (nmOk m.c && decide (0 < m.l.length) && all8M m.l && ckU m m.l.length) := by
 have hin : ∀ (i : Nat) (x : Lg), m.l[i]? = some x → -9223372036854775808 ≤ x.id ∧ x.id ≤ 9223372036854775807 := fun i x hx => (hi.2.2.2.2.2 x (List.mem_of_getElem? hx)).1
 have may1 : ∀ x : Lg, mayLg x = true → 1 ≤ x.id := fun x h => by
  unfold mayLg at h
  simp only [Bool.and_eq_true, decide_eq_true_eq] at h
  exact h.1.2
 rw [Bool.eq_iff_iff]
 constructor
 ·intro h
  obtain ⟨l1, _, l3⟩ := push_len h
  obtain ⟨c1, c2⟩ := push_c h
  unfold isPushB at h
  simp only [Bool.and_eq_true, decide_eq_true_eq] at h
  obtain ⟨⟨h1, _⟩, ha⟩ := h
  obtain ⟨x0, hx0⟩ : ∃ x, m.l[0]? = some x := ⟨_, List.getElem?_eq_getElem (by omega)⟩
  have hhd : m.l.head?.getD ⟨[], 0, 0, [], [], []⟩ = x0 := by
   rw [List.head?_eq_getElem?, hx0]; rfl
  have hH := hin 0 x0 hx0
  have hid : ∀ (i : Nat) (x : Lg), m.l[i]? = some x → x.id = IntKind.i64.wrap (x0.id + (i : Int)) := fun i x hx => by
   unfold pAll at ha
   have := (List.all_eq_true.1 ha) i (List.mem_range.2 (List.getElem?_eq_some_iff.1 hx).1)
   rw [hx] at this
   have h2 : pushX m i x = true := by simpa using this
   unfold pushX at h2
   simp only [Bool.and_eq_true, decide_eq_true_eq] at h2
   rw [hhd] at h2
   exact h2.2
  generalize x0.id = H at hid hH
  have hlt : ∀ (i : Nat) (x : Lg), m.l[i]? = some x → i < 8 := fun i x hx => by have := (List.getElem?_eq_some_iff.1 hx).1; omega
  simp only [Bool.and_eq_true, decide_eq_true_eq]
  refine ⟨⟨⟨c1, by omega⟩, ?_⟩, ?_⟩
  ·unfold all8M
   simp only [Bool.and_eq_true, decide_eq_true_eq]
   exact ⟨l3, l1⟩
  ·unfold ckU
   rw [List.all_eq_true]
   intro i hir
   have hir := List.mem_range.1 hir
   obtain ⟨x, hx⟩ : ∃ x, m.l[i]? = some x := ⟨_, List.getElem?_eq_getElem hir⟩
   rw [hx]
   show chkX m i x = true
   unfold chkX
   rw [decide_eq_true (c2 x (List.mem_of_getElem? hx)), Bool.true_and]
   by_cases h0 : i = 0
   ·simp [h0]
   obtain ⟨p, rfl⟩ : ∃ p, i = p + 1 := ⟨i - 1, by omega⟩
   obtain ⟨y, hy⟩ : ∃ y, m.l[p]? = some y := ⟨_, List.getElem?_eq_getElem (by omega)⟩
   have e1 := hid _ _ hx
   have e2 := hid _ _ hy
   have m1 := may1 x (l3 x (List.mem_of_getElem? hx))
   have m2 := may1 y (l3 y (List.mem_of_getElem? hy))
   have r2 := hin _ _ hy
   have i8 := hlt _ _ hx
   have key : x.id - 1 = y.id := by
    by_cases k1 : H + ((p + 1 : Nat) : Int) ≤ 9223372036854775807
    ·rw [wr_lo (by omega) k1] at e1
     rw [wr_lo (by omega) (by omega)] at e2
     omega
    ·have := wr_hi (z := H + ((p + 1 : Nat) : Int)) (by omega) (by omega)
     omega
   rw [show p + 1 - 1 = p by omega, hy]
   simp
   omega
 ·intro h
  simp only [Bool.and_eq_true, decide_eq_true_eq] at h
  obtain ⟨⟨⟨c1, h0⟩, ha⟩, hu⟩ := h
  unfold all8M at ha
  simp only [Bool.and_eq_true, decide_eq_true_eq] at ha
  have hck : ∀ (i : Nat) (x : Lg), m.l[i]? = some x → chkX m i x = true := fun i x hx => by
   unfold ckU at hu
   have := (List.all_eq_true.1 hu) i (List.mem_range.2 (List.getElem?_eq_some_iff.1 hx).1)
   rw [hx] at this
   simpa using this
  obtain ⟨x0, hx0⟩ : ∃ x, m.l[0]? = some x := ⟨_, List.getElem?_eq_getElem h0⟩
  have hhd : m.l.head?.getD ⟨[], 0, 0, [], [], []⟩ = x0 := by
   rw [List.head?_eq_getElem?, hx0]; rfl
  have hid : ∀ (i : Nat) x, m.l[i]? = some x → x.id = x0.id + (i : Int) := by
   intro i
   induction i with
   | zero => intro x hx; rw [hx0] at hx; have := Option.some.inj hx; subst this; simp
   | succ p ih =>
    intro x hx
    obtain ⟨y, hy⟩ : ∃ y, m.l[p]? = some y := ⟨_, List.getElem?_eq_getElem (by have := (List.getElem?_eq_some_iff.1 hx).1; omega)⟩
    have h1 := ih y hy
    have h2 := hck _ _ hx
    unfold chkX at h2
    rw [show p + 1 - 1 = p by omega, hy] at h2
    simp at h2
    omega
  unfold isPushB
  simp only [Bool.and_eq_true, decide_eq_true_eq]
  refine ⟨⟨by omega, ha.2⟩, ?_⟩
  refine pall_true fun i x hx => ?_
  unfold pushX
  have h2 := hck _ _ hx
  unfold chkX at h2
  simp only [Bool.and_eq_true, decide_eq_true_eq] at h2
  simp only [Bool.and_eq_true, decide_eq_true_eq]
  refine ⟨⟨ha.1 x (List.mem_of_getElem? hx), h2.1⟩, ?_⟩
  rw [hhd, ← hid i x hx]
  have := hin _ _ hx
  exact (wr_lo this.1 this.2).symm
theorem ck_m2 {m : Mg} (hk : m.k = 2) : mayBeM m = (decide (0 ≤ m.la) && verB m.top && sameB (⟨m.k, [], 0, 0, m.la, m.top, []⟩ : Mg) m) := by
 unfold mayBeM sameB
 rw [if_neg (by omega), if_pos hk]
 rw [Bool.eq_iff_iff]
 simp only [Bool.and_eq_true, decide_eq_true_eq, and_assoc, List.length_nil, @eq_comm _ (0 : Int), @eq_comm _ (0 : Nat), @eq_comm _ ([] : List UInt8)]
 constructor <;> intro h <;> simp_all
set_option maxHeartbeats 16000000 in
theorem rck2 (m : Mg) (a : Option Addr) (n c : Nat) (w : World) (hl : LRow w a n m.l) (hn9 : n ≤ 1000000) (hc : m.c.length ≤ 9223372036854775807) (hx : ∀ x ∈ m.l, LgL x) (hi : MiZ m) (hk : m.k = 2) : CkO m a n c w := by
 unfold CkO mgV
 generalize hE : (if mayBeM m = true then (0 : Int) else 130) = E
 have HE := hide hE
 clear hE
 obtain ⟨X, hX⟩ : ∃ X, X = w.heap.size := ⟨_, rfl⟩
 obtain ⟨Z, hZ⟩ : ∃ Z, Z = w.heap.size + 1 := ⟨_, rfl⟩
 obtain ⟨W, hW⟩ : ∃ W, W = (w.alloc (.cells #[.int .i64 m.k, .string (str m.c), .int .i64 m.fr, .int .i64 m.co, .int .i64 m.la, .int .i64 m.top, .slice a n c] 24)).alloc (.cells #[.int .i64 m.k, .string ⟨#[]⟩, .int .i64 0, .int .i64 0, .int .i64 0, .int .i64 0, .slice none 0 0] 24) := ⟨_, rfl⟩
 have bW : Below w.heap.size w W := by rw [hW]; exact below2 w _ _
 have rX : W.heap[X]? = some (.cells #[.int .i64 m.k, .string (str m.c), .int .i64 m.fr, .int .i64 m.co, .int .i64 m.la, .int .i64 m.top, .slice a n c] 24 (0, 0)) := by
  rw [hW, hX, heap_alloc_old _ _ (by simp)]
  exact heap_alloc_new _ _
 have rZ : W.heap[Z]? = some (.cells #[.int .i64 m.k, .string ⟨#[]⟩, .int .i64 0, .int .i64 0, .int .i64 0, .int .i64 0, .slice none 0 0] 24 (0, 0)) := by
  rw [hW, hZ]
  exact heap_alloc2_new _ _ _
 have HBW := hide bW
 have HX := hide rX
 have HZ := hide rZ
 have HXZ : Hid (X ≠ Z ∧ w.heap.size ≤ Z) := by refine ⟨?_, ?_⟩ <;> omega
 obtain ⟨p0, p1, p2, p3, p4, p5, p6⟩ := cells7 rX
 obtain ⟨z0, z1, z2, z3, z4, z5, z6⟩ := cells7 rZ
 have q1 : (m.k == 1) = false := by rw [beq_eq_false_iff_ne]; omega
 have q2 : (m.k == 2) = true := by rw [beq_iff_eq]; omega
 have f4 := frozen_of_row W Z 4 _ _ rZ
 have f5 := frozen_of_row W Z 5 _ _ rZ
 have HK := hide hk
 have HLL : Hid (∀ V, V = ((W.setCell ⟨Z, 4, none⟩ (.int .i64 m.la)).setCell ⟨Z, 5, none⟩ (.int .i64 m.top)).drew → ∀ u, Below V.heap.size V u → LRow u a n m.l) := fun V hV u hb => by
  refine LRow.below ?_ hb
  rw [hV]
  have q := (uh HXZ).2
  exact hl.below ((((uh HBW).setCell q _).setCell q _).drew)
 have HN : Hid (n = m.l.length) := hl.1
 have HVE : Hid (∀ u, Calls Tryz.prog 46 #[.int .i64 m.top] u fun e w' => e = .returned (.bool (verB m.top)) ∧ w' = u) := fun u => rver_any m.top u
 have HEQ := hide (ck_m2 hk)
 clear bW rX rZ hk hl
 go_enter Tryz.func23, Tryz.ntmps23
 go_upto_region 3 with fail
 rw [← hW, ← hZ, ← hX]
 clear hW hZ hX
 go_upto_region 14 with fail
 go_region
 obtain ⟨V, hV⟩ : ∃ V, V = ((W.setCell ⟨Z, 4, none⟩ (.int .i64 m.la)).setCell ⟨Z, 5, none⟩ (.int .i64 m.top)).drew := ⟨_, rfl⟩
 have rVZ : V.heap[Z]? = some (.cells #[.int .i64 m.k, .string ⟨#[]⟩, .int .i64 0, .int .i64 0, .int .i64 m.la, .int .i64 m.top, .slice none 0 0] 24 (0, 0)) := by rw [hV]; exact hS6 (hS6 (uh HZ))
 have rVX : V.heap[X]? = some (.cells #[.int .i64 m.k, .string (str m.c), .int .i64 m.fr, .int .i64 m.co, .int .i64 m.la, .int .i64 m.top, .slice a n c] 24 (0, 0)) := by
  rw [hV]
  have ne := (uh HXZ).1
  show ((W.setCell ⟨Z, 4, none⟩ (.int .i64 m.la)).setCell ⟨Z, 5, none⟩ (.int .i64 m.top)).heap[X]? = _
  rw [Below.heap_setCell _ ⟨Z, 5, none⟩ _ X ne, Below.heap_setCell _ ⟨Z, 4, none⟩ _ X ne]
  exact uh HX
 have HBV : Hid (Below w.heap.size w V) := by
  show Below _ _ _
  rw [hV]
  have q := (uh HXZ).2
  exact (((uh HBW).setCell q _).setCell q _).drew
 have HVZ : Hid (∀ u, Below V.heap.size V u → u.heap[Z]? = some (.cells #[.int .i64 m.k, .string ⟨#[]⟩, .int .i64 0, .int .i64 0, .int .i64 m.la, .int .i64 m.top, .slice none 0 0] 24 (0, 0))) := fun u hb => (hb.block Z (aI rVZ).1).trans rVZ
 have HVX : Hid (∀ u, Below V.heap.size V u → u.heap[X]? = some (.cells #[.int .i64 m.k, .string (str m.c), .int .i64 m.fr, .int .i64 m.co, .int .i64 m.la, .int .i64 m.top, .slice a n c] 24 (0, 0))) := fun u hb => (hb.block X (aI rVX).1).trans rVX
 have HLV : Hid (∀ u, Below V.heap.size V u → LRow u a n m.l) := fun u hb => uh HLL V hV u hb
 obtain ⟨p0, p1, p2, p3, p4, p5, p6⟩ := cells7 rVX
 rw [← hV]
 clear hV rVZ rVX z0 z1 z2 z3 z4 z5 z6 HX HZ HXZ HLL HBW
 by_cases h0 : 0 ≤ m.la
 rotate_left 1
 ·have HF : Hid (E = 130) := by
   have hm : mayBeM m = false := by
    rw [uh HEQ, decide_eq_false h0]; simp
   show _ = _
   rw [← uh HE, hm]
   rfl
  clear HEQ HE
  go_wp2_with fail
  go_ret
  exact ⟨by rw [uh HF]; try rfl, HBV⟩
 go_wp2_with fail
 refine (uh HVE _).mono ?_
 rintro e u1 ⟨rfl, rfl⟩
 clear HVE p0 p1 p2 p3 p4 p5 p6
 generalize hv : verB m.top = bv
 have HV := hide hv
 clear hv
 cases bv with
 | false =>
  have HF : Hid (E = 130) := by
   have hm : mayBeM m = false := by
    rw [uh HEQ, uh HV]; simp
   show _ = _
   rw [← uh HE, hm]
   rfl
  clear HEQ HE
  go_wp2_with fail
  go_ret
  exact ⟨by rw [uh HF]; try rfl, HBV⟩
 | true =>
  obtain ⟨z0, z1, z2, z3, z4, z5, z6⟩ := cells7 (uh HVZ u1 (Below.refl _ _))
  obtain ⟨p0, p1, p2, p3, p4, p5, p6⟩ := cells7 (uh HVX u1 (Below.refl _ _))
  have HSM := hide (rsame_any (⟨m.k, [], 0, 0, m.la, m.top, []⟩ : Mg) m none 0 0 a n c u1 (⟨rfl, fun h => absurd rfl h⟩) (uh HLV u1 (Below.refl _ _)) (.inr rfl) (by omega))
  unfold mgV at HSM
  dsimp only at HSM
  rw [show str ([] : List UInt8) = (⟨#[]⟩ : ByteArray) from rfl] at HSM
  have HF : Hid (E = if sameB (⟨m.k, [], 0, 0, m.la, m.top, []⟩ : Mg) m = true then 0 else 130) := by
   have hm : mayBeM m = sameB (⟨m.k, [], 0, 0, m.la, m.top, []⟩ : Mg) m := by
    rw [uh HEQ, uh HV, decide_eq_true h0]; simp
   show _ = _
   rw [← uh HE, hm]
  have HBU : Hid (Below w.heap.size w u1) := (uh HBV).trans (((Below.refl _ _)).mono (uh HBV).size)
  generalize sameB (⟨m.k, [], 0, 0, m.la, m.top, []⟩ : Mg) m = bs at HSM HF
  clear HEQ HVZ HVX HLV HE
  go_wp2_with fail
  refine (uh HSM).mono ?_
  rintro e u8 ⟨rfl, h8⟩
  have HB8 : Hid (Below w.heap.size w u8) := (uh HBU).trans ((uh h8).mono (uh HBU).size)
  clear HSM z0 z1 z2 z3 z4 z5 z6 p0 p1 p2 p3 p4 p5 p6
  cases bs with
  | false =>
   go_wp2_with fail
   go_ret
   exact ⟨by rw [uh HF]; try rfl, HB8⟩
  | true =>
   go_wp2_with fail
   go_ret
   exact ⟨by rw [uh HF]; try rfl, HB8⟩
theorem ck_m3 {m : Mg} (hk : m.k = 3) : mayBeM m = (nmOk m.c && verB m.co && sameB (⟨m.k, m.c, 0, m.co, 0, 0, []⟩ : Mg) m) := by
 unfold mayBeM sameB
 rw [if_neg (by omega), if_neg (by omega), if_pos hk]
 rw [Bool.eq_iff_iff]
 simp only [Bool.and_eq_true, decide_eq_true_eq, and_assoc, List.length_nil, @eq_comm _ (0 : Int), @eq_comm _ (0 : Nat)]
 constructor <;> intro h <;> simp_all
set_option maxHeartbeats 16000000 in
theorem rck3 (m : Mg) (a : Option Addr) (n c : Nat) (w : World) (hl : LRow w a n m.l) (hn9 : n ≤ 1000000) (hc : m.c.length ≤ 9223372036854775807) (hx : ∀ x ∈ m.l, LgL x) (hi : MiZ m) (hk : m.k = 3) : CkO m a n c w := by
 unfold CkO mgV
 generalize hE : (if mayBeM m = true then (0 : Int) else 130) = E
 have HE := hide hE
 clear hE
 obtain ⟨X, hX⟩ : ∃ X, X = w.heap.size := ⟨_, rfl⟩
 obtain ⟨Z, hZ⟩ : ∃ Z, Z = w.heap.size + 1 := ⟨_, rfl⟩
 obtain ⟨W, hW⟩ : ∃ W, W = (w.alloc (.cells #[.int .i64 m.k, .string (str m.c), .int .i64 m.fr, .int .i64 m.co, .int .i64 m.la, .int .i64 m.top, .slice a n c] 24)).alloc (.cells #[.int .i64 m.k, .string ⟨#[]⟩, .int .i64 0, .int .i64 0, .int .i64 0, .int .i64 0, .slice none 0 0] 24) := ⟨_, rfl⟩
 have bW : Below w.heap.size w W := by rw [hW]; exact below2 w _ _
 have rX : W.heap[X]? = some (.cells #[.int .i64 m.k, .string (str m.c), .int .i64 m.fr, .int .i64 m.co, .int .i64 m.la, .int .i64 m.top, .slice a n c] 24 (0, 0)) := by
  rw [hW, hX, heap_alloc_old _ _ (by simp)]
  exact heap_alloc_new _ _
 have rZ : W.heap[Z]? = some (.cells #[.int .i64 m.k, .string ⟨#[]⟩, .int .i64 0, .int .i64 0, .int .i64 0, .int .i64 0, .slice none 0 0] 24 (0, 0)) := by
  rw [hW, hZ]
  exact heap_alloc2_new _ _ _
 have HBW := hide bW
 have HX := hide rX
 have HZ := hide rZ
 have HXZ : Hid (X ≠ Z ∧ w.heap.size ≤ Z) := by refine ⟨?_, ?_⟩ <;> omega
 obtain ⟨p0, p1, p2, p3, p4, p5, p6⟩ := cells7 rX
 obtain ⟨z0, z1, z2, z3, z4, z5, z6⟩ := cells7 rZ
 have q1 : (m.k == 1) = false := by rw [beq_eq_false_iff_ne]; omega
 have q2 : (m.k == 2) = false := by rw [beq_eq_false_iff_ne]; omega
 have q3 : (m.k == 3) = true := by rw [beq_iff_eq]; omega
 have f1 := frozen_of_row W Z 1 _ _ rZ
 have f3 := frozen_of_row W Z 3 _ _ rZ
 have HK := hide hk
 have HLL : Hid (∀ V, V = ((W.setCell ⟨Z, 1, none⟩ (.string (str m.c))).setCell ⟨Z, 3, none⟩ (.int .i64 m.co)).drew → ∀ u, Below V.heap.size V u → LRow u a n m.l) := fun V hV u hb => by
  refine LRow.below ?_ hb
  rw [hV]
  have q := (uh HXZ).2
  exact hl.below ((((uh HBW).setCell q _).setCell q _).drew)
 have HN : Hid (n = m.l.length) := hl.1
 have HNA : Hid (∀ u, Calls Tryz.prog 44 #[.string (str m.c)] u fun e w' => e = .returned (.bool (nmOk m.c)) ∧ w' = u) := fun u => rname_any m.c u hc
 have HVE : Hid (∀ u, Calls Tryz.prog 46 #[.int .i64 m.co] u fun e w' => e = .returned (.bool (verB m.co)) ∧ w' = u) := fun u => rver_any m.co u
 have HEQ := hide (ck_m3 hk)
 clear bW rX rZ hk hl
 go_enter Tryz.func23, Tryz.ntmps23
 go_upto_region 3 with fail
 rw [← hW, ← hZ, ← hX]
 clear hW hZ hX
 go_upto_region 17 with fail
 go_region
 obtain ⟨V, hV⟩ : ∃ V, V = ((W.setCell ⟨Z, 1, none⟩ (.string (str m.c))).setCell ⟨Z, 3, none⟩ (.int .i64 m.co)).drew := ⟨_, rfl⟩
 have rVZ : V.heap[Z]? = some (.cells #[.int .i64 m.k, .string (str m.c), .int .i64 0, .int .i64 m.co, .int .i64 0, .int .i64 0, .slice none 0 0] 24 (0, 0)) := by rw [hV]; exact hS6 (hS6 (uh HZ))
 have rVX : V.heap[X]? = some (.cells #[.int .i64 m.k, .string (str m.c), .int .i64 m.fr, .int .i64 m.co, .int .i64 m.la, .int .i64 m.top, .slice a n c] 24 (0, 0)) := by
  rw [hV]
  have ne := (uh HXZ).1
  show ((W.setCell ⟨Z, 1, none⟩ (.string (str m.c))).setCell ⟨Z, 3, none⟩ (.int .i64 m.co)).heap[X]? = _
  rw [Below.heap_setCell _ ⟨Z, 3, none⟩ _ X ne, Below.heap_setCell _ ⟨Z, 1, none⟩ _ X ne]
  exact uh HX
 have HBV : Hid (Below w.heap.size w V) := by
  show Below _ _ _
  rw [hV]
  have q := (uh HXZ).2
  exact (((uh HBW).setCell q _).setCell q _).drew
 have HVZ : Hid (∀ u, Below V.heap.size V u → u.heap[Z]? = some (.cells #[.int .i64 m.k, .string (str m.c), .int .i64 0, .int .i64 m.co, .int .i64 0, .int .i64 0, .slice none 0 0] 24 (0, 0))) := fun u hb => (hb.block Z (aI rVZ).1).trans rVZ
 have HVX : Hid (∀ u, Below V.heap.size V u → u.heap[X]? = some (.cells #[.int .i64 m.k, .string (str m.c), .int .i64 m.fr, .int .i64 m.co, .int .i64 m.la, .int .i64 m.top, .slice a n c] 24 (0, 0))) := fun u hb => (hb.block X (aI rVX).1).trans rVX
 have HLV : Hid (∀ u, Below V.heap.size V u → LRow u a n m.l) := fun u hb => uh HLL V hV u hb
 obtain ⟨p0, p1, p2, p3, p4, p5, p6⟩ := cells7 rVX
 rw [← hV]
 clear hV rVZ rVX z0 z1 z2 z3 z4 z5 z6 HX HZ HXZ HLL HBW
 go_wp2_with fail
 refine (uh HNA _).mono ?_
 rintro e u1 ⟨rfl, rfl⟩
 clear HNA
 generalize HNB0 : nmOk m.c = bn
 have HNB := hide HNB0
 clear HNB0
 cases bn with
 | false =>
  have HF : Hid (E = 130) := by
   have hm : mayBeM m = false := by
    rw [uh HEQ, uh HNB]; simp
   show _ = _
   rw [← uh HE, hm]
   rfl
  clear HEQ HE
  go_wp2_with fail
  go_ret
  exact ⟨by rw [uh HF]; try rfl, HBV⟩
 | true =>
  go_wp2_with fail
  refine (uh HVE _).mono ?_
  rintro e u1 ⟨rfl, rfl⟩
  clear HVE p0 p1 p2 p3 p4 p5 p6
  generalize HVB0 : verB m.co = bv
  have HVB := hide HVB0
  clear HVB0
  cases bv with
  | false =>
   have HF : Hid (E = 130) := by
    have hm : mayBeM m = false := by
     rw [uh HEQ, uh HVB]; simp
    show _ = _
    rw [← uh HE, hm]
    rfl
   clear HEQ HE
   go_wp2_with fail
   go_ret
   exact ⟨by rw [uh HF]; try rfl, HBV⟩
  | true =>
   obtain ⟨z0, z1, z2, z3, z4, z5, z6⟩ := cells7 (uh HVZ u1 (Below.refl _ _))
   obtain ⟨p0, p1, p2, p3, p4, p5, p6⟩ := cells7 (uh HVX u1 (Below.refl _ _))
   have HSM := hide (rsame_any (⟨m.k, m.c, 0, m.co, 0, 0, []⟩ : Mg) m none 0 0 a n c u1 (⟨rfl, fun h => absurd rfl h⟩) (uh HLV u1 (Below.refl _ _)) (.inr rfl) (by omega))
   unfold mgV at HSM
   dsimp only at HSM

   have HF : Hid (E = if sameB (⟨m.k, m.c, 0, m.co, 0, 0, []⟩ : Mg) m = true then 0 else 130) := by
    have hm : mayBeM m = sameB (⟨m.k, m.c, 0, m.co, 0, 0, []⟩ : Mg) m := by
     rw [uh HEQ, uh HNB, uh HVB]; simp
    show _ = _
    rw [← uh HE, hm]
   have HBU : Hid (Below w.heap.size w u1) := (uh HBV).trans (((Below.refl _ _)).mono (uh HBV).size)
   generalize sameB (⟨m.k, m.c, 0, m.co, 0, 0, []⟩ : Mg) m = bs at HSM HF
   clear HEQ HVZ HVX HLV HE
   go_wp2_with fail
   refine (uh HSM).mono ?_
   rintro e u8 ⟨rfl, h8⟩
   have HB8 : Hid (Below w.heap.size w u8) := (uh HBU).trans ((uh h8).mono (uh HBU).size)
   clear HSM z0 z1 z2 z3 z4 z5 z6 p0 p1 p2 p3 p4 p5 p6
   cases bs with
   | false =>
    go_wp2_with fail
    go_ret
    exact ⟨by rw [uh HF]; try rfl, HB8⟩
   | true =>
    go_wp2_with fail
    go_ret
    exact ⟨by rw [uh HF]; try rfl, HB8⟩
theorem ck_m5 {m : Mg} (hk : m.k = 5) : mayBeM m = (verB m.top && sameB (⟨m.k, [], 0, 0, 0, m.top, []⟩ : Mg) m) := by
 unfold mayBeM sameB
 rw [if_neg (by omega), if_neg (by omega), if_neg (by omega), if_neg (by omega), if_pos hk]
 rw [Bool.eq_iff_iff]
 simp only [Bool.and_eq_true, decide_eq_true_eq, and_assoc, List.length_nil, @eq_comm _ (0 : Int), @eq_comm _ (0 : Nat), @eq_comm _ ([] : List UInt8)]
 constructor <;> intro h <;> simp_all
set_option maxHeartbeats 16000000 in
theorem rck5 (m : Mg) (a : Option Addr) (n c : Nat) (w : World) (hl : LRow w a n m.l) (hn9 : n ≤ 1000000) (hc : m.c.length ≤ 9223372036854775807) (hx : ∀ x ∈ m.l, LgL x) (hi : MiZ m) (hk : m.k = 5) : CkO m a n c w := by
 unfold CkO mgV
 generalize hE : (if mayBeM m = true then (0 : Int) else 130) = E
 have HE := hide hE
 clear hE
 obtain ⟨X, hX⟩ : ∃ X, X = w.heap.size := ⟨_, rfl⟩
 obtain ⟨Z, hZ⟩ : ∃ Z, Z = w.heap.size + 1 := ⟨_, rfl⟩
 obtain ⟨W, hW⟩ : ∃ W, W = (w.alloc (.cells #[.int .i64 m.k, .string (str m.c), .int .i64 m.fr, .int .i64 m.co, .int .i64 m.la, .int .i64 m.top, .slice a n c] 24)).alloc (.cells #[.int .i64 m.k, .string ⟨#[]⟩, .int .i64 0, .int .i64 0, .int .i64 0, .int .i64 0, .slice none 0 0] 24) := ⟨_, rfl⟩
 have bW : Below w.heap.size w W := by rw [hW]; exact below2 w _ _
 have rX : W.heap[X]? = some (.cells #[.int .i64 m.k, .string (str m.c), .int .i64 m.fr, .int .i64 m.co, .int .i64 m.la, .int .i64 m.top, .slice a n c] 24 (0, 0)) := by
  rw [hW, hX, heap_alloc_old _ _ (by simp)]
  exact heap_alloc_new _ _
 have rZ : W.heap[Z]? = some (.cells #[.int .i64 m.k, .string ⟨#[]⟩, .int .i64 0, .int .i64 0, .int .i64 0, .int .i64 0, .slice none 0 0] 24 (0, 0)) := by
  rw [hW, hZ]
  exact heap_alloc2_new _ _ _
 have HBW := hide bW
 have HX := hide rX
 have HZ := hide rZ
 have HXZ : Hid (X ≠ Z ∧ w.heap.size ≤ Z) := by refine ⟨?_, ?_⟩ <;> omega
 obtain ⟨p0, p1, p2, p3, p4, p5, p6⟩ := cells7 rX
 obtain ⟨z0, z1, z2, z3, z4, z5, z6⟩ := cells7 rZ
 have q1 : (m.k == 1) = false := by rw [beq_eq_false_iff_ne]; omega
 have q2 : (m.k == 2) = false := by rw [beq_eq_false_iff_ne]; omega
 have q3 : (m.k == 3) = false := by rw [beq_eq_false_iff_ne]; omega
 have q4 : (m.k == 4) = false := by rw [beq_eq_false_iff_ne]; omega
 have q5 : (m.k == 5) = true := by rw [beq_iff_eq]; omega
 have f5 := frozen_of_row W Z 5 _ _ rZ
 have HK := hide hk
 have HLL : Hid (∀ V, V = W.setCell ⟨Z, 5, none⟩ (.int .i64 m.top) → ∀ u, Below V.heap.size V u → LRow u a n m.l) := fun V hV u hb => by
  refine LRow.below ?_ hb
  rw [hV]
  have q := (uh HXZ).2
  exact hl.below ((uh HBW).setCell q _)
 have HN : Hid (n = m.l.length) := hl.1
 have HVE : Hid (∀ u, Calls Tryz.prog 46 #[.int .i64 m.top] u fun e w' => e = .returned (.bool (verB m.top)) ∧ w' = u) := fun u => rver_any m.top u
 have HEQ := hide (ck_m5 hk)
 clear bW rX rZ hk hl
 go_enter Tryz.func23, Tryz.ntmps23
 go_upto_region 3 with fail
 rw [← hW, ← hZ, ← hX]
 clear hW hZ hX
 go_upto_region 24 with fail
 obtain ⟨V, hV⟩ : ∃ V, V = W.setCell ⟨Z, 5, none⟩ (.int .i64 m.top) := ⟨_, rfl⟩
 have rVZ : V.heap[Z]? = some (.cells #[.int .i64 m.k, .string ⟨#[]⟩, .int .i64 0, .int .i64 0, .int .i64 0, .int .i64 m.top, .slice none 0 0] 24 (0, 0)) := by rw [hV]; exact hS6 (uh HZ)
 have rVX : V.heap[X]? = some (.cells #[.int .i64 m.k, .string (str m.c), .int .i64 m.fr, .int .i64 m.co, .int .i64 m.la, .int .i64 m.top, .slice a n c] 24 (0, 0)) := by
  rw [hV]
  have ne := (uh HXZ).1
  show (W.setCell ⟨Z, 5, none⟩ (.int .i64 m.top)).heap[X]? = _
  rw [Below.heap_setCell _ ⟨Z, 5, none⟩ _ X ne]
  exact uh HX
 have HBV : Hid (Below w.heap.size w V) := by
  show Below _ _ _
  rw [hV]
  have q := (uh HXZ).2
  exact (uh HBW).setCell q _
 have HVZ : Hid (∀ u, Below V.heap.size V u → u.heap[Z]? = some (.cells #[.int .i64 m.k, .string ⟨#[]⟩, .int .i64 0, .int .i64 0, .int .i64 0, .int .i64 m.top, .slice none 0 0] 24 (0, 0))) := fun u hb => (hb.block Z (aI rVZ).1).trans rVZ
 have HVX : Hid (∀ u, Below V.heap.size V u → u.heap[X]? = some (.cells #[.int .i64 m.k, .string (str m.c), .int .i64 m.fr, .int .i64 m.co, .int .i64 m.la, .int .i64 m.top, .slice a n c] 24 (0, 0))) := fun u hb => (hb.block X (aI rVX).1).trans rVX
 have HLV : Hid (∀ u, Below V.heap.size V u → LRow u a n m.l) := fun u hb => uh HLL V hV u hb
 obtain ⟨p0, p1, p2, p3, p4, p5, p6⟩ := cells7 rVX
 rw [← hV]
 clear hV rVZ rVX z0 z1 z2 z3 z4 z5 z6 HX HZ HXZ HLL HBW
 go_wp2_with fail
 refine (uh HVE _).mono ?_
 rintro e u1 ⟨rfl, rfl⟩
 clear HVE p0 p1 p2 p3 p4 p5 p6
 generalize HVB0 : verB m.top = bv
 have HVB := hide HVB0
 clear HVB0
 cases bv with
 | false =>
  have HF : Hid (E = 130) := by
   have hm : mayBeM m = false := by
    rw [uh HEQ, uh HVB]; simp
   show _ = _
   rw [← uh HE, hm]
   rfl
  clear HEQ HE
  go_wp2_with fail
  go_ret
  exact ⟨by rw [uh HF]; try rfl, HBV⟩
 | true =>
  obtain ⟨z0, z1, z2, z3, z4, z5, z6⟩ := cells7 (uh HVZ u1 (Below.refl _ _))
  obtain ⟨p0, p1, p2, p3, p4, p5, p6⟩ := cells7 (uh HVX u1 (Below.refl _ _))
  have HSM := hide (rsame_any (⟨m.k, [], 0, 0, 0, m.top, []⟩ : Mg) m none 0 0 a n c u1 (⟨rfl, fun h => absurd rfl h⟩) (uh HLV u1 (Below.refl _ _)) (.inr rfl) (by omega))
  unfold mgV at HSM
  dsimp only at HSM
  rw [show str ([] : List UInt8) = (⟨#[]⟩ : ByteArray) from rfl] at HSM
  have HF : Hid (E = if sameB (⟨m.k, [], 0, 0, 0, m.top, []⟩ : Mg) m = true then 0 else 130) := by
   have hm : mayBeM m = sameB (⟨m.k, [], 0, 0, 0, m.top, []⟩ : Mg) m := by
    rw [uh HEQ, uh HVB]; simp
   show _ = _
   rw [← uh HE, hm]
  have HBU : Hid (Below w.heap.size w u1) := (uh HBV).trans (((Below.refl _ _)).mono (uh HBV).size)
  generalize sameB (⟨m.k, [], 0, 0, 0, m.top, []⟩ : Mg) m = bs at HSM HF
  clear HEQ HVZ HVX HLV HE
  go_wp2_with fail
  refine (uh HSM).mono ?_
  rintro e u8 ⟨rfl, h8⟩
  have HB8 : Hid (Below w.heap.size w u8) := (uh HBU).trans ((uh h8).mono (uh HBU).size)
  clear HSM z0 z1 z2 z3 z4 z5 z6 p0 p1 p2 p3 p4 p5 p6
  cases bs with
  | false =>
   go_wp2_with fail
   go_ret
   exact ⟨by rw [uh HF]; try rfl, HB8⟩
  | true =>
   go_wp2_with fail
   go_ret
   exact ⟨by rw [uh HF]; try rfl, HB8⟩
set_option maxHeartbeats 16000000 in
theorem rck0 (m : Mg) (a : Option Addr) (n c : Nat) (w : World) (hl : LRow w a n m.l) (hn9 : n ≤ 1000000) (hc : m.c.length ≤ 9223372036854775807) (hx : ∀ x ∈ m.l, LgL x) (hi : MiZ m) (hk : m.k ≠ 1 ∧ m.k ≠ 2 ∧ m.k ≠ 3 ∧ m.k ≠ 4 ∧ m.k ≠ 5) : CkO m a n c w := by
 unfold CkO mgV
 generalize hE : (if mayBeM m = true then (0 : Int) else 130) = E
 have HE := hide hE
 clear hE
 obtain ⟨X, hX⟩ : ∃ X, X = w.heap.size := ⟨_, rfl⟩
 obtain ⟨Z, hZ⟩ : ∃ Z, Z = w.heap.size + 1 := ⟨_, rfl⟩
 obtain ⟨W, hW⟩ : ∃ W, W = (w.alloc (.cells #[.int .i64 m.k, .string (str m.c), .int .i64 m.fr, .int .i64 m.co, .int .i64 m.la, .int .i64 m.top, .slice a n c] 24)).alloc (.cells #[.int .i64 m.k, .string ⟨#[]⟩, .int .i64 0, .int .i64 0, .int .i64 0, .int .i64 0, .slice none 0 0] 24) := ⟨_, rfl⟩
 have bW : Below w.heap.size w W := by rw [hW]; exact below2 w _ _
 have rX : W.heap[X]? = some (.cells #[.int .i64 m.k, .string (str m.c), .int .i64 m.fr, .int .i64 m.co, .int .i64 m.la, .int .i64 m.top, .slice a n c] 24 (0, 0)) := by
  rw [hW, hX, heap_alloc_old _ _ (by simp)]
  exact heap_alloc_new _ _
 have rZ : W.heap[Z]? = some (.cells #[.int .i64 m.k, .string ⟨#[]⟩, .int .i64 0, .int .i64 0, .int .i64 0, .int .i64 0, .slice none 0 0] 24 (0, 0)) := by
  rw [hW, hZ]
  exact heap_alloc2_new _ _ _
 have HBW := hide bW
 have HX := hide rX
 have HZ := hide rZ
 have HXZ : Hid (X ≠ Z ∧ w.heap.size ≤ Z) := by refine ⟨?_, ?_⟩ <;> omega
 obtain ⟨p0, p1, p2, p3, p4, p5, p6⟩ := cells7 rX
 obtain ⟨z0, z1, z2, z3, z4, z5, z6⟩ := cells7 rZ
 have q1 : (m.k == 1) = false := by rw [beq_eq_false_iff_ne]; omega
 have q2 : (m.k == 2) = false := by rw [beq_eq_false_iff_ne]; omega
 have q3 : (m.k == 3) = false := by rw [beq_eq_false_iff_ne]; omega
 have q4 : (m.k == 4) = false := by rw [beq_eq_false_iff_ne]; omega
 have q5 : (m.k == 5) = false := by rw [beq_eq_false_iff_ne]; omega
 have HK := hide hk
 have HLL : Hid (∀ V, V = W → ∀ u, Below V.heap.size V u → LRow u a n m.l) := fun V hV u hb => by
  refine LRow.below ?_ hb
  rw [hV]
  have q := (uh HXZ).2
  exact hl.below (uh HBW)
 have HN : Hid (n = m.l.length) := hl.1
 have HEQ : Hid (mayBeM m = false) := by show _ = _; unfold mayBeM; rw [if_neg hk.1, if_neg hk.2.1, if_neg hk.2.2.1, if_neg hk.2.2.2.1, if_neg hk.2.2.2.2]
 clear bW rX rZ hk hl
 go_enter Tryz.func23, Tryz.ntmps23
 go_upto_region 3 with fail
 rw [← hW, ← hZ, ← hX]
 clear hW hZ hX
 have HF : Hid (E = 130) := by
  have hm : mayBeM m = false := by
   exact uh HEQ
  show _ = _
  rw [← uh HE, hm]
  rfl
 clear HEQ HE
 go_wp2_with fail
 go_ret
 exact ⟨by rw [uh HF]; try rfl, HBW⟩
end Go.Proofs.YtmpjeahibfdehaaGreatDoor
end
section
set_option linter.unusedVariables false
set_option maxRecDepth 1000000
namespace Go.Proofs.YtmpjeahibfdehaaGreatDoor
open Go.RowKit

theorem ck_m4 {m : Mg} (hk : m.k = 4) : mayBeM m = (verB m.fr && verB m.co && verB m.top && decide (0 ≤ m.la) && all8M m.l && decide (m.co = m.fr + (m.l.length : Int)) && decide (m.co ≤ m.top) && sameB (⟨m.k, [], m.fr, m.co, m.la, m.top, m.l⟩ : Mg) m) := by
 unfold mayBeM sameB isPatchB all8M verB
 rw [if_neg (by omega), if_neg (by omega), if_neg (by omega), if_pos hk]
 rw [Bool.eq_iff_iff]
 simp only [Bool.and_eq_true, decide_eq_true_eq, and_assoc]
 constructor
 ·rintro ⟨h1, h2, h3, h4, h5, h6, h7, h8, h9⟩
  exact ⟨by omega, by omega, by omega, by omega, by omega, by omega, by omega, h3, h2, by omega, by omega, trivial, h1.symm, trivial, trivial, trivial, trivial, trivial⟩
 ·intro h
  have h1 := h.2.2.2.2.2.2.2.2.2.2.2.2.1
  exact ⟨h1.symm, h.2.2.2.2.2.2.2.2.1, h.2.2.2.2.2.2.2.1, by omega, by omega, by omega, by omega, by omega, by omega⟩
set_option maxHeartbeats 16000000 in
theorem rck4 (m : Mg) (a : Option Addr) (n c : Nat) (w : World) (hl : LRow w a n m.l) (hn9 : n ≤ 1000000) (hc : m.c.length ≤ 9223372036854775807) (hx : ∀ x ∈ m.l, LgL x) (hi : MiZ m) (hk : m.k = 4) : CkO m a n c w := by
 unfold CkO mgV
 generalize hE : (if mayBeM m = true then (0 : Int) else 130) = E
 have HE := hide hE
 clear hE
 obtain ⟨X, hX⟩ : ∃ X, X = w.heap.size := ⟨_, rfl⟩
 obtain ⟨Z, hZ⟩ : ∃ Z, Z = w.heap.size + 1 := ⟨_, rfl⟩
 obtain ⟨W, hW⟩ : ∃ W, W = (w.alloc (.cells #[.int .i64 m.k, .string (str m.c), .int .i64 m.fr, .int .i64 m.co, .int .i64 m.la, .int .i64 m.top, .slice a n c] 24)).alloc (.cells #[.int .i64 m.k, .string ⟨#[]⟩, .int .i64 0, .int .i64 0, .int .i64 0, .int .i64 0, .slice none 0 0] 24) := ⟨_, rfl⟩
 have bW : Below w.heap.size w W := by rw [hW]; exact below2 w _ _
 have rX : W.heap[X]? = some (.cells #[.int .i64 m.k, .string (str m.c), .int .i64 m.fr, .int .i64 m.co, .int .i64 m.la, .int .i64 m.top, .slice a n c] 24 (0, 0)) := by
  rw [hW, hX, heap_alloc_old _ _ (by simp)]
  exact heap_alloc_new _ _
 have rZ : W.heap[Z]? = some (.cells #[.int .i64 m.k, .string ⟨#[]⟩, .int .i64 0, .int .i64 0, .int .i64 0, .int .i64 0, .slice none 0 0] 24 (0, 0)) := by
  rw [hW, hZ]
  exact heap_alloc2_new _ _ _
 have HBW := hide bW
 have HX := hide rX
 have HZ := hide rZ
 have HXZ : Hid (X ≠ Z ∧ w.heap.size ≤ Z) := by refine ⟨?_, ?_⟩ <;> omega
 obtain ⟨p0, p1, p2, p3, p4, p5, p6⟩ := cells7 rX
 obtain ⟨z0, z1, z2, z3, z4, z5, z6⟩ := cells7 rZ
 have q1 : (m.k == 1) = false := by rw [beq_eq_false_iff_ne]; omega
 have q2 : (m.k == 2) = false := by rw [beq_eq_false_iff_ne]; omega
 have q3 : (m.k == 3) = false := by rw [beq_eq_false_iff_ne]; omega
 have q4 : (m.k == 4) = true := by rw [beq_iff_eq]; omega
 have f2 := frozen_of_row W Z 2 _ _ rZ
 have f3 := frozen_of_row W Z 3 _ _ rZ
 have f4 := frozen_of_row W Z 4 _ _ rZ
 have f5 := frozen_of_row W Z 5 _ _ rZ
 have f6 := frozen_of_row W Z 6 _ _ rZ
 have HK := hide hk
 have HLL : Hid (∀ V, V = (((((W.setCell ⟨Z, 2, none⟩ (.int .i64 m.fr)).setCell ⟨Z, 3, none⟩ (.int .i64 m.co)).setCell ⟨Z, 4, none⟩ (.int .i64 m.la)).setCell ⟨Z, 5, none⟩ (.int .i64 m.top)).setCell ⟨Z, 6, none⟩ (.slice a n c)).drew → ∀ u, Below V.heap.size V u → LRow u a n m.l) := fun V hV u hb => by
  refine LRow.below ?_ hb
  rw [hV]
  have q := (uh HXZ).2
  exact hl.below (((((((uh HBW).setCell q _).setCell q _).setCell q _).setCell q _).setCell q _).drew)
 have HN : Hid (n = m.l.length) := hl.1
 have HV1 : Hid (∀ u, Calls Tryz.prog 46 #[.int .i64 m.fr] u fun e w' => e = .returned (.bool (verB m.fr)) ∧ w' = u) := fun u => rver_any m.fr u
 have HV2 : Hid (∀ u, Calls Tryz.prog 46 #[.int .i64 m.co] u fun e w' => e = .returned (.bool (verB m.co)) ∧ w' = u) := fun u => rver_any m.co u
 have HV3 : Hid (∀ u, Calls Tryz.prog 46 #[.int .i64 m.top] u fun e w' => e = .returned (.bool (verB m.top)) ∧ w' = u) := fun u => rver_any m.top u
 have HEQ := hide (ck_m4 hk)
 have HXL := hide hx
 clear bW rX rZ hk hl
 go_enter Tryz.func23, Tryz.ntmps23
 go_upto_region 3 with fail
 rw [← hW, ← hZ, ← hX]
 clear hW hZ hX
 go_upto_region 20 with fail
 go_region
 obtain ⟨V, hV⟩ : ∃ V, V = (((((W.setCell ⟨Z, 2, none⟩ (.int .i64 m.fr)).setCell ⟨Z, 3, none⟩ (.int .i64 m.co)).setCell ⟨Z, 4, none⟩ (.int .i64 m.la)).setCell ⟨Z, 5, none⟩ (.int .i64 m.top)).setCell ⟨Z, 6, none⟩ (.slice a n c)).drew := ⟨_, rfl⟩
 have rVZ : V.heap[Z]? = some (.cells #[.int .i64 m.k, .string ⟨#[]⟩, .int .i64 m.fr, .int .i64 m.co, .int .i64 m.la, .int .i64 m.top, .slice a n c] 24 (0, 0)) := by rw [hV]; exact hS6 (hS6 (hS6 (hS6 (hS6 (uh HZ)))))
 have rVX : V.heap[X]? = some (.cells #[.int .i64 m.k, .string (str m.c), .int .i64 m.fr, .int .i64 m.co, .int .i64 m.la, .int .i64 m.top, .slice a n c] 24 (0, 0)) := by
  rw [hV]
  have ne := (uh HXZ).1
  show (((((W.setCell ⟨Z, 2, none⟩ (.int .i64 m.fr)).setCell ⟨Z, 3, none⟩ (.int .i64 m.co)).setCell ⟨Z, 4, none⟩ (.int .i64 m.la)).setCell ⟨Z, 5, none⟩ (.int .i64 m.top)).setCell ⟨Z, 6, none⟩ (.slice a n c)).heap[X]? = _
  rw [Below.heap_setCell _ ⟨Z, 6, none⟩ _ X ne, Below.heap_setCell _ ⟨Z, 5, none⟩ _ X ne, Below.heap_setCell _ ⟨Z, 4, none⟩ _ X ne, Below.heap_setCell _ ⟨Z, 3, none⟩ _ X ne, Below.heap_setCell _ ⟨Z, 2, none⟩ _ X ne]
  exact uh HX
 have HBV : Hid (Below w.heap.size w V) := by
  show Below _ _ _
  rw [hV]
  have q := (uh HXZ).2
  exact ((((((uh HBW).setCell q _).setCell q _).setCell q _).setCell q _).setCell q _).drew
 have HVZ : Hid (∀ u, Below V.heap.size V u → u.heap[Z]? = some (.cells #[.int .i64 m.k, .string ⟨#[]⟩, .int .i64 m.fr, .int .i64 m.co, .int .i64 m.la, .int .i64 m.top, .slice a n c] 24 (0, 0))) := fun u hb => (hb.block Z (aI rVZ).1).trans rVZ
 have HVX : Hid (∀ u, Below V.heap.size V u → u.heap[X]? = some (.cells #[.int .i64 m.k, .string (str m.c), .int .i64 m.fr, .int .i64 m.co, .int .i64 m.la, .int .i64 m.top, .slice a n c] 24 (0, 0))) := fun u hb => (hb.block X (aI rVX).1).trans rVX
 have HLV : Hid (∀ u, Below V.heap.size V u → LRow u a n m.l) := fun u hb => uh HLL V hV u hb
 obtain ⟨p0, p1, p2, p3, p4, p5, p6⟩ := cells7 rVX
 rw [← hV]
 clear hV rVZ rVX z0 z1 z2 z3 z4 z5 z6 HX HZ HXZ HLL HBW
 go_wp2_with fail
 refine (uh HV1 _).mono ?_
 rintro e u1 ⟨rfl, rfl⟩
 clear HV1
 generalize HB110 : verB m.fr = b1
 have HB11 := hide HB110
 clear HB110
 cases b1 with
 | false =>
  have HF : Hid (E = 130) := by
   have hm : mayBeM m = false := by
    rw [uh HEQ, uh HB11]; simp
   show _ = _
   rw [← uh HE, hm]
   rfl
  clear HEQ HE
  go_wp2_with fail
  go_ret
  exact ⟨by rw [uh HF]; try rfl, HBV⟩
 | true =>
  go_wp2_with fail
  refine (uh HV2 _).mono ?_
  rintro e u1 ⟨rfl, rfl⟩
  clear HV2
  generalize HB120 : verB m.co = b2
  have HB12 := hide HB120
  clear HB120
  cases b2 with
  | false =>
   have HF : Hid (E = 130) := by
    have hm : mayBeM m = false := by
     rw [uh HEQ, uh HB12]; simp
    show _ = _
    rw [← uh HE, hm]
    rfl
   clear HEQ HE
   go_wp2_with fail
   go_ret
   exact ⟨by rw [uh HF]; try rfl, HBV⟩
  | true =>
   go_wp2_with fail
   refine (uh HV3 _).mono ?_
   rintro e u1 ⟨rfl, rfl⟩
   clear HV3
   generalize HB130 : verB m.top = b3
   have HB13 := hide HB130
   clear HB130
   cases b3 with
   | false =>
    have HF : Hid (E = 130) := by
     have hm : mayBeM m = false := by
      rw [uh HEQ, uh HB13]; simp
     show _ = _
     rw [← uh HE, hm]
     rfl
    clear HEQ HE
    go_wp2_with fail
    go_ret
    exact ⟨by rw [uh HF]; try rfl, HBV⟩
   | true =>
    by_cases h0 : 0 ≤ m.la
    rotate_left 1
    ·have HF : Hid (E = 130) := by
      have hm : mayBeM m = false := by
       rw [uh HEQ, decide_eq_false h0]; simp
      show _ = _
      rw [← uh HE, hm]
      rfl
     clear HEQ HE
     go_wp2_with fail
     go_ret
     exact ⟨by rw [uh HF]; try rfl, HBV⟩
    have HAL := hide (rall_any a n c m.l u1 (uh HLV u1 (Below.refl _ _)) (uh HXL) (by omega))
    go_wp2_with fail
    refine (uh HAL).mono ?_
    rintro e u2 ⟨rfl, h2⟩
    have HB2 : Hid (Below u1.heap.size u1 u2) := h2
    clear HAL h2 HXL p0 p1 p2 p3 p4 p5 p6
    obtain ⟨p0, p1, p2, p3, p4, p5, p6⟩ := cells7 (uh HVX u2 (uh HB2))
    generalize hba : all8M m.l = ba
    have HBA := hide hba
    clear hba
    cases ba with
    | false =>
     have HF : Hid (E = 130) := by
      have hm : mayBeM m = false := by
       rw [uh HEQ, uh HBA]; simp
      show _ = _
      rw [← uh HE, hm]
      rfl
     clear HEQ HE
     go_wp2_with fail
     go_ret
     exact ⟨by rw [uh HF]; try rfl, ((uh HBV).trans ((uh HB2).mono (uh HBV).size))⟩
    | true =>
     have hfr : 0 ≤ m.fr ∧ m.fr ≤ 1099511627776 := by have := uh HB11; unfold verB at this; simpa using this
     have hwr : IntKind.i64.wrap (m.fr + (n : Int)) = m.fr + (n : Int) := wr_lo (by omega) (by omega)
     by_cases hce : m.co = m.fr + (n : Int)
     rotate_left 1
     ·have qce : (m.co == m.fr + (n : Int)) = false := by rw [beq_eq_false_iff_ne]; exact hce
      have HF : Hid (E = 130) := by
       have hm : mayBeM m = false := by
        rw [uh HEQ, decide_eq_false (show ¬ m.co = m.fr + (m.l.length : Int) by have := uh HN; omega)]; simp
       show _ = _
       rw [← uh HE, hm]
       rfl
      clear HEQ HE
      go_wp2_with fail
      go_ret
      exact ⟨by rw [uh HF]; try rfl, ((uh HBV).trans ((uh HB2).mono (uh HBV).size))⟩
     have qce : (m.co == m.fr + (n : Int)) = true := by rw [beq_iff_eq]; exact hce
     have HCE := hide hce
     clear hce
     by_cases hct : m.co ≤ m.top
     rotate_left 1
     ·have HF : Hid (E = 130) := by
       have hm : mayBeM m = false := by
        rw [uh HEQ, decide_eq_false hct]; simp
       show _ = _
       rw [← uh HE, hm]
       rfl
      clear HEQ HE
      go_wp2_with fail
      go_ret
      exact ⟨by rw [uh HF]; try rfl, ((uh HBV).trans ((uh HB2).mono (uh HBV).size))⟩
     have hce9 := uh HCE
     clear hce9
     obtain ⟨z0, z1, z2, z3, z4, z5, z6⟩ := cells7 (uh HVZ u2 (uh HB2))
     obtain ⟨p0, p1, p2, p3, p4, p5, p6⟩ := cells7 (uh HVX u2 (uh HB2))
     have HSM := hide (rsame_any (⟨m.k, [], m.fr, m.co, m.la, m.top, m.l⟩ : Mg) m a n c a n c u2 ((uh HLV u2 (uh HB2))) (uh HLV u2 (uh HB2)) (.inl rfl) (by omega))
     unfold mgV at HSM
     dsimp only at HSM
     rw [show str ([] : List UInt8) = (⟨#[]⟩ : ByteArray) from rfl] at HSM
     have HF : Hid (E = if sameB (⟨m.k, [], m.fr, m.co, m.la, m.top, m.l⟩ : Mg) m = true then 0 else 130) := by
      have hm : mayBeM m = sameB (⟨m.k, [], m.fr, m.co, m.la, m.top, m.l⟩ : Mg) m := by
       rw [uh HEQ, uh HB11, uh HB12, uh HB13, decide_eq_true h0, uh HBA, decide_eq_true (show m.co = m.fr + (m.l.length : Int) by have := uh HN; have := uh HCE; omega), decide_eq_true hct]; simp
      show _ = _
      rw [← uh HE, hm]
     have HBU : Hid (Below w.heap.size w u2) := (uh HBV).trans (((uh HB2)).mono (uh HBV).size)
     generalize sameB (⟨m.k, [], m.fr, m.co, m.la, m.top, m.l⟩ : Mg) m = bs at HSM HF
     clear HEQ HVZ HVX HLV HE
     go_wp2_with fail
     refine (uh HSM).mono ?_
     rintro e u8 ⟨rfl, h8⟩
     have HB8 : Hid (Below w.heap.size w u8) := (uh HBU).trans ((uh h8).mono (uh HBU).size)
     clear HSM z0 z1 z2 z3 z4 z5 z6 p0 p1 p2 p3 p4 p5 p6
     cases bs with
     | false =>
      go_wp2_with fail
      go_ret
      exact ⟨by rw [uh HF]; try rfl, HB8⟩
     | true =>
      go_wp2_with fail
      go_ret
      exact ⟨by rw [uh HF]; try rfl, HB8⟩
end Go.Proofs.YtmpjeahibfdehaaGreatDoor
end
section
set_option linter.unusedVariables false
set_option maxRecDepth 1000000
namespace Go.Proofs.YtmpjeahibfdehaaGreatDoor
open Go.RowKit

theorem ck_m1 {m : Mg} (hk : m.k = 1) (hi : MiZ m) : mayBeM m = (nmOk m.c && decide (0 < m.l.length) && all8M m.l && ckU m m.l.length && sameB (⟨m.k, m.c, 0, 0, 0, 0, m.l⟩ : Mg) m) := by
 rw [← push_ck hi]
 unfold mayBeM sameB
 rw [if_pos hk]
 rw [Bool.eq_iff_iff]
 simp only [Bool.and_eq_true, decide_eq_true_eq, and_assoc, @eq_comm _ (0 : Int)]
 constructor <;> intro h <;> simp_all
set_option maxHeartbeats 16000000 in
theorem rck1 (m : Mg) (a : Option Addr) (n c : Nat) (w : World) (hl : LRow w a n m.l) (hn9 : n ≤ 1000000) (hc : m.c.length ≤ 9223372036854775807) (hx : ∀ x ∈ m.l, LgL x) (hi : MiZ m) (hk : m.k = 1) : CkO m a n c w := by
 unfold CkO mgV
 generalize hE : (if mayBeM m = true then (0 : Int) else 130) = E
 have HE := hide hE
 clear hE
 obtain ⟨X, hX⟩ : ∃ X, X = w.heap.size := ⟨_, rfl⟩
 obtain ⟨Z, hZ⟩ : ∃ Z, Z = w.heap.size + 1 := ⟨_, rfl⟩
 obtain ⟨W, hW⟩ : ∃ W, W = (w.alloc (.cells #[.int .i64 m.k, .string (str m.c), .int .i64 m.fr, .int .i64 m.co, .int .i64 m.la, .int .i64 m.top, .slice a n c] 24)).alloc (.cells #[.int .i64 m.k, .string ⟨#[]⟩, .int .i64 0, .int .i64 0, .int .i64 0, .int .i64 0, .slice none 0 0] 24) := ⟨_, rfl⟩
 have bW : Below w.heap.size w W := by rw [hW]; exact below2 w _ _
 have rX : W.heap[X]? = some (.cells #[.int .i64 m.k, .string (str m.c), .int .i64 m.fr, .int .i64 m.co, .int .i64 m.la, .int .i64 m.top, .slice a n c] 24 (0, 0)) := by
  rw [hW, hX, heap_alloc_old _ _ (by simp)]
  exact heap_alloc_new _ _
 have rZ : W.heap[Z]? = some (.cells #[.int .i64 m.k, .string ⟨#[]⟩, .int .i64 0, .int .i64 0, .int .i64 0, .int .i64 0, .slice none 0 0] 24 (0, 0)) := by
  rw [hW, hZ]
  exact heap_alloc2_new _ _ _
 have HBW := hide bW
 have HX := hide rX
 have HZ := hide rZ
 have HXZ : Hid (X ≠ Z ∧ w.heap.size ≤ Z) := by refine ⟨?_, ?_⟩ <;> omega
 obtain ⟨p0, p1, p2, p3, p4, p5, p6⟩ := cells7 rX
 obtain ⟨z0, z1, z2, z3, z4, z5, z6⟩ := cells7 rZ
 have q1 : (m.k == 1) = true := by rw [beq_iff_eq]; omega
 have f1 := frozen_of_row W Z 1 _ _ rZ
 have f6 := frozen_of_row W Z 6 _ _ rZ
 have HK := hide hk
 have HLL : Hid (∀ V, V = ((W.setCell ⟨Z, 1, none⟩ (.string (str m.c))).setCell ⟨Z, 6, none⟩ (.slice a n c)).drew → ∀ u, Below V.heap.size V u → LRow u a n m.l) := fun V hV u hb => by
  refine LRow.below ?_ hb
  rw [hV]
  have q := (uh HXZ).2
  exact hl.below ((((uh HBW).setCell q _).setCell q _).drew)
 have HN : Hid (n = m.l.length) := hl.1
 have HNA : Hid (∀ u, Calls Tryz.prog 44 #[.string (str m.c)] u fun e w' => e = .returned (.bool (nmOk m.c)) ∧ w' = u) := fun u => rname_any m.c u hc
 have HEQ := hide (ck_m1 hk hi)
 have HXL := hide hx
 have HII := hide hi
 clear bW rX rZ hk hl
 go_enter Tryz.func23, Tryz.ntmps23
 go_upto_region 3 with fail
 rw [← hW, ← hZ, ← hX]
 clear hW hZ hX
 go_upto_region 6 with fail
 go_region
 obtain ⟨V, hV⟩ : ∃ V, V = ((W.setCell ⟨Z, 1, none⟩ (.string (str m.c))).setCell ⟨Z, 6, none⟩ (.slice a n c)).drew := ⟨_, rfl⟩
 have rVZ : V.heap[Z]? = some (.cells #[.int .i64 m.k, .string (str m.c), .int .i64 0, .int .i64 0, .int .i64 0, .int .i64 0, .slice a n c] 24 (0, 0)) := by rw [hV]; exact hS6 (hS6 (uh HZ))
 have rVX : V.heap[X]? = some (.cells #[.int .i64 m.k, .string (str m.c), .int .i64 m.fr, .int .i64 m.co, .int .i64 m.la, .int .i64 m.top, .slice a n c] 24 (0, 0)) := by
  rw [hV]
  have ne := (uh HXZ).1
  show ((W.setCell ⟨Z, 1, none⟩ (.string (str m.c))).setCell ⟨Z, 6, none⟩ (.slice a n c)).heap[X]? = _
  rw [Below.heap_setCell _ ⟨Z, 6, none⟩ _ X ne, Below.heap_setCell _ ⟨Z, 1, none⟩ _ X ne]
  exact uh HX
 have HBV : Hid (Below w.heap.size w V) := by
  show Below _ _ _
  rw [hV]
  have q := (uh HXZ).2
  exact (((uh HBW).setCell q _).setCell q _).drew
 have HVZ : Hid (∀ u, Below V.heap.size V u → u.heap[Z]? = some (.cells #[.int .i64 m.k, .string (str m.c), .int .i64 0, .int .i64 0, .int .i64 0, .int .i64 0, .slice a n c] 24 (0, 0))) := fun u hb => (hb.block Z (aI rVZ).1).trans rVZ
 have HVX : Hid (∀ u, Below V.heap.size V u → u.heap[X]? = some (.cells #[.int .i64 m.k, .string (str m.c), .int .i64 m.fr, .int .i64 m.co, .int .i64 m.la, .int .i64 m.top, .slice a n c] 24 (0, 0))) := fun u hb => (hb.block X (aI rVX).1).trans rVX
 have HLV : Hid (∀ u, Below V.heap.size V u → LRow u a n m.l) := fun u hb => uh HLL V hV u hb
 obtain ⟨p0, p1, p2, p3, p4, p5, p6⟩ := cells7 rVX
 rw [← hV]
 clear hV rVZ rVX z0 z1 z2 z3 z4 z5 z6 HX HZ HXZ HLL HBW
 go_wp2_with fail
 refine (uh HNA _).mono ?_
 rintro e u1 ⟨rfl, rfl⟩
 clear HNA
 generalize hbn : nmOk m.c = bn
 have HBN := hide hbn
 clear hbn
 cases bn
 case' false =>
  obtain ⟨u2, hu2⟩ : ∃ u2, u2 = u1 := ⟨_, rfl⟩
  have HB2 : Hid (Below u1.heap.size u1 u2) := by rw [hu2]; exact Below.refl _ _
  have HOK : Hid (false = (nmOk m.c && decide (0 < m.l.length) && all8M m.l)) := by
   show _ = _
   rw [uh HBN]; simp
  rw [← hu2]
  clear hu2 p0 p1 p2 p3 p4 p5 p6
  obtain ⟨p0, p1, p2, p3, p4, p5, p6⟩ := cells7 (uh HVX u2 (uh HB2))
 case' true =>
  by_cases hn0 : 0 < n
  case' neg =>
   have hn0' : ¬ (0 : Int) < (n : Int) := by omega
   obtain ⟨u2, hu2⟩ : ∃ u2, u2 = u1 := ⟨_, rfl⟩
   have HB2 : Hid (Below u1.heap.size u1 u2) := by rw [hu2]; exact Below.refl _ _
   have HOK : Hid (false = (nmOk m.c && decide (0 < m.l.length) && all8M m.l)) := by
    show _ = _
    rw [decide_eq_false (show ¬ 0 < m.l.length by have := uh HN; omega)]; simp
   rw [← hu2]
   clear hu2 p0 p1 p2 p3 p4 p5 p6
   obtain ⟨p0, p1, p2, p3, p4, p5, p6⟩ := cells7 (uh HVX u2 (uh HB2))
   go_wp2_with fail
   clear hn0 hn0'
  case' pos =>
   have hn0' : (0 : Int) < (n : Int) := by omega
   have HAL := hide (rall_any a n c m.l u1 (uh HLV u1 (Below.refl _ _)) (uh HXL) (by omega))
   go_wp2_with fail
   refine (uh HAL).mono ?_
   rintro e u2 ⟨rfl, h2⟩
   have HB2 : Hid (Below u1.heap.size u1 u2) := h2
   clear HAL h2 p0 p1 p2 p3 p4 p5 p6
   obtain ⟨p0, p1, p2, p3, p4, p5, p6⟩ := cells7 (uh HVX u2 (uh HB2))
   obtain ⟨ba, hba⟩ : ∃ ba, ba = all8M m.l := ⟨_, rfl⟩
   have HOK : Hid (ba = (nmOk m.c && decide (0 < m.l.length) && all8M m.l)) := by
    show _ = _
    rw [hba, uh HBN, decide_eq_true (show 0 < m.l.length by have := uh HN; omega)]
    simp
   rw [← hba]
   clear hba
 all_goals
  (try go_wp2_with fail)
  clear p0 p1 p2 p3 p4 p5 p6
  go_loopw [4, 37] (fun vo v wr => ∃ (q : Nat) (b : Bool), q ≤ n ∧ vo = .bool b ∧ v = .int .i64 (q : Int) ∧ Hid (b = (nmOk m.c && decide (0 < m.l.length) && all8M m.l && ckU m q)) ∧ Hid (Below u2.heap.size u2 wr)) (fun _ v _ => n - (intOf v).toNat)
  case atStart => exact ⟨0, _, Nat.zero_le _, rfl, rfl, by have := uh HOK; show _ = _; simp only [ckU, List.range_zero, List.all_nil, Bool.and_true]; exact this, Below.refl _ _⟩
  case round =>
   obtain ⟨q, b, hq, rfl, rfl, HQB, HB⟩ := hrel
   clear HOK
   by_cases hlt : q < n
   ·have hlt' : (q : Int) < (n : Int) := by omega
    obtain ⟨x, hx⟩ : ∃ x, m.l[q]? = some x := ⟨_, List.getElem?_eq_getElem (by have := uh HN; omega)⟩
    have HBV2 : Hid (∀ u, Below u2.heap.size u2 u → Below u1.heap.size u1 u) := fun u hb => (uh HB2).trans (hb.mono (uh HB2).size)
    obtain ⟨bb, off, rfl, hbl, hc⟩ := (uh HLV wr (uh HBV2 _ (uh HB))).2 (fun e => by rw [e] at hx; simp at hx)
    have g0 := hc q x hx 0 _ rfl
    have g1 := hc q x hx 1 _ rfl
    have g2 := hc q x hx 2 _ rfl
    have g3 := hc q x hx 3 _ rfl
    have g4 := hc q x hx 4 _ rfl
    have g5 := hc q x hx 5 _ rfl
    rw [Nat.add_zero] at g0
    obtain ⟨Y, hY⟩ : ∃ Y, Y = wr.heap.size := ⟨_, rfl⟩
    obtain ⟨W5, h5⟩ : ∃ W5, W5 = wr.alloc (.cells #[.string (str x.c), .int .i64 x.id, .int .i64 x.m.k, .string (str x.m.i), .string (str x.m.n), .string (str x.m.t)] 28) := ⟨_, rfl⟩
    have b5 : Below wr.heap.size wr W5 := by rw [h5]; exact bA _
    have HB5 : Hid (Below u2.heap.size u2 W5) := (uh HB).trans (b5.mono (uh HB).size)
    obtain ⟨e0, e1, e2, e3, e4, e5⟩ := cells6 (show W5.heap[Y]? = some (.cells #[.string (str x.c), .int .i64 x.id, .int .i64 x.m.k, .string (str x.m.i), .string (str x.m.n), .string (str x.m.t)] 28 (0, 0)) by rw [h5, hY]; exact heap_alloc_new _ _)
    have px := cells7 (uh HVX W5 (uh HBV2 _ (uh HB5)))
    have p1 := px.2.1
    have p6 := px.2.2.2.2.2.2
    have HSTEP : Hid ((nmOk m.c && decide (0 < m.l.length) && all8M m.l && ckU m (q + 1)) = (b && chkX m q x)) := by
     show _ = _
     rw [ckU_step hx, uh HQB]
     simp only [Bool.and_assoc]
    have hxr := (uh HII).2.2.2.2.2 x (List.mem_of_getElem? hx)
    unfold LiZ at hxr
    have hxr := hxr.1
    have HPREV : Hid (∀ p, q = p + 1 → ∃ y, m.l[p]? = some y ∧ W5.cell? ⟨bb, off + p * 6 + 1, none⟩ = some (.int .i64 y.id)) := fun p hp => by
     obtain ⟨y, hy⟩ : ∃ y, m.l[p]? = some y := ⟨_, List.getElem?_eq_getElem (by have := uh HN; omega)⟩
     exact ⟨y, hy, cell_keep (b5.block bb hbl) (hc p y hy 1 _ rfl)⟩
    clear px hc hbl hx b5 HQB
    go_upto_region 11 with fail
    rw [← h5, ← hY]
    clear h5 hY g0 g1 g2 g3 g4 g5 e2 e3 e4 e5
    cases b with
    | false =>
     clear p1 p6 e0 e1 HPREV
     have HB' : Hid (false = (nmOk m.c && decide (0 < m.l.length) && all8M m.l && ckU m (q + 1))) := by
      show _ = _
      rw [uh HSTEP]; simp
     clear HSTEP
     go_quiet (fail)
     go_wp2_with fail
     go_round
     case rel => exact ⟨q + 1, _, by omega, rfl, by go_num, HB', bdj (uh HB5) _⟩
     case measure => simp [intOf]; omega
    | true =>
     by_cases hcc : x.c = m.c
     rotate_left 1
     ·have q_c : ((str x.c).toList == (str m.c).toList) = false := by rw [toList_str, toList_str]; rw [beq_eq_false_iff_ne]; exact hcc
      clear p6 e1 HPREV
      have HB' : Hid (false = (nmOk m.c && decide (0 < m.l.length) && all8M m.l && ckU m (q + 1))) := by
       show _ = _
       rw [uh HSTEP]; unfold chkX; simp [hcc]
      clear HSTEP hcc
      go_quiet (fail)
      go_wp2_with fail
      go_round
      case rel => exact ⟨q + 1, _, by omega, rfl, by go_num, HB', bdj (uh HB5) _⟩
      case measure => simp [intOf]; omega
     have q_c : ((str x.c).toList == (str m.c).toList) = true := by rw [toList_str, toList_str]; rw [beq_iff_eq]; exact hcc
     have HCC := hide hcc
     clear hcc
     by_cases hq0 : q = 0
     ·have q_0 : ((q : Int) == 0) = true := by rw [beq_iff_eq]; omega
      clear p6 e1 HPREV
      have HB' : Hid (true = (nmOk m.c && decide (0 < m.l.length) && all8M m.l && ckU m (q + 1))) := by
       show _ = _
       rw [uh HSTEP]; unfold chkX; simp [uh HCC, hq0]
      clear HSTEP hq0
      go_quiet (fail)
      go_wp2_with fail
      go_round
      case rel => exact ⟨q + 1, _, by omega, rfl, by go_num, HB', bdj (uh HB5) _⟩
      case measure => simp [intOf]; omega
     have q_0 : ((q : Int) == 0) = false := by rw [beq_eq_false_iff_ne]; omega
     by_cases h1 : 1 < x.id
     rotate_left 1
     ·clear p6 HPREV
      have HB' : Hid (false = (nmOk m.c && decide (0 < m.l.length) && all8M m.l && ckU m (q + 1))) := by
       show _ = _
       rw [uh HSTEP]; unfold chkX; simp [hq0, h1]
      clear HSTEP hq0
      go_quiet (fail)
      go_wp2_with fail
      go_round
      case rel => exact ⟨q + 1, _, by omega, rfl, by go_num, HB', bdj (uh HB5) _⟩
      case measure => simp [intOf]; omega
     obtain ⟨p, hp⟩ : ∃ p, q = p + 1 := ⟨q - 1, by omega⟩
     obtain ⟨y, hy, cy⟩ := uh HPREV p hp
     have HCH : Hid (chkX m q x = decide (x.id - 1 = y.id)) := by
      show _ = _
      unfold chkX
      rw [show q - 1 = p by omega, hy]
      simp [uh HCC, hq0, h1]
     have z2 : IntKind.i64.wrap ((q : Int) - 1) = (p : Int) := by rw [wr_lo (by omega) (by omega)]; omega
     have z3 : (q : Int) - 1 = (p : Int) := by omega
     have z4 : IntKind.i64.wrap (p : Int) = (p : Int) := wr_lo (by omega) (by omega)
     have hpn : (p : Int) < (n : Int) := by omega
     have hp0 : (0 : Int) ≤ (p : Int) := by omega
     have z5 : IntKind.i64.wrap (x.id - 1) = x.id - 1 := wr_lo (by omega) (by omega)
     clear HPREV hy hp hq0
     by_cases hd : x.id - 1 = y.id
     ·have q_d : (x.id - 1 == y.id) = true := by rw [beq_iff_eq]; exact hd
      have HB' : Hid (true = (nmOk m.c && decide (0 < m.l.length) && all8M m.l && ckU m (q + 1))) := by
       show _ = _
       rw [uh HSTEP, uh HCH, decide_eq_true hd]; rfl
      clear HSTEP HCH hd
      go_quiet (fail)
      go_wp2_with fail
      go_round
      case rel => exact ⟨q + 1, _, by omega, rfl, by go_num, HB', bdj (uh HB5) _⟩
      case measure => simp [intOf]; omega
     ·have q_d : (x.id - 1 == y.id) = false := by rw [beq_eq_false_iff_ne]; exact hd
      have HB' : Hid (false = (nmOk m.c && decide (0 < m.l.length) && all8M m.l && ckU m (q + 1))) := by
       show _ = _
       rw [uh HSTEP, uh HCH, decide_eq_false hd]; rfl
      clear HSTEP HCH hd
      go_quiet (fail)
      go_wp2_with fail
      go_round
      case rel => exact ⟨q + 1, _, by omega, rfl, by go_num, HB', bdj (uh HB5) _⟩
      case measure => simp [intOf]; omega
   ·have hlt' : ¬ (q : Int) < (n : Int) := by omega
    obtain rfl : n = q := by omega
    have HQE : Hid (mayBeM m = (b && sameB (⟨m.k, m.c, 0, 0, 0, 0, m.l⟩ : Mg) m)) := by
     show _ = _
     have e := uh HQB
     rw [show ckU m n = ckU m m.l.length by rw [← uh HN]] at e
     rw [uh HEQ, ← e]
    have HB3 : Hid (Below u1.heap.size u1 wr) := (uh HB2).trans ((uh HB).mono (uh HB2).size)
    clear HII HXL
    cases b with
    | false =>
     have HF : Hid (E = 130) := by
      have hm : mayBeM m = false := by
       rw [uh HQE]; rfl
      show _ = _
      rw [← uh HE, hm]
      rfl
     clear HEQ HE
     go_wp2_with fail
     go_ret
     exact ⟨by rw [uh HF]; try rfl, ((uh HBV).trans ((uh HB3).mono (uh HBV).size))⟩
    | true =>
     obtain ⟨z0, z1, z2, z3, z4, z5, z6⟩ := cells7 (uh HVZ wr (uh HB3))
     obtain ⟨p0, p1, p2, p3, p4, p5, p6⟩ := cells7 (uh HVX wr (uh HB3))
     have HSM := hide (rsame_any (⟨m.k, m.c, 0, 0, 0, 0, m.l⟩ : Mg) m a n c a n c wr ((uh HLV wr (uh HB3))) (uh HLV wr (uh HB3)) (.inl rfl) (by omega))
     unfold mgV at HSM
     dsimp only at HSM

     have HF : Hid (E = if sameB (⟨m.k, m.c, 0, 0, 0, 0, m.l⟩ : Mg) m = true then 0 else 130) := by
      have hm : mayBeM m = sameB (⟨m.k, m.c, 0, 0, 0, 0, m.l⟩ : Mg) m := by
       rw [uh HQE]; rfl
      show _ = _
      rw [← uh HE, hm]
     have HBU : Hid (Below w.heap.size w wr) := (uh HBV).trans (((uh HB3)).mono (uh HBV).size)
     generalize sameB (⟨m.k, m.c, 0, 0, 0, 0, m.l⟩ : Mg) m = bs at HSM HF
     clear HEQ HVZ HVX HLV HE
     go_wp2_with fail
     refine (uh HSM).mono ?_
     rintro e u8 ⟨rfl, h8⟩
     have HB8 : Hid (Below w.heap.size w u8) := (uh HBU).trans ((uh h8).mono (uh HBU).size)
     clear HSM z0 z1 z2 z3 z4 z5 z6 p0 p1 p2 p3 p4 p5 p6
     cases bs with
     | false =>
      go_wp2_with fail
      go_ret
      exact ⟨by rw [uh HF]; try rfl, HB8⟩
     | true =>
      go_wp2_with fail
      go_ret
      exact ⟨by rw [uh HF]; try rfl, HB8⟩
end Go.Proofs.YtmpjeahibfdehaaGreatDoor
end
section
set_option linter.unusedVariables false
set_option maxRecDepth 1000000
namespace Go.Proofs.YtmpjeahibfdehaaGreatDoor
open Go.RowKit

theorem rcheck13 (m : Mg) (a : Option Addr) (n c : Nat) (w : World) (hl : LRow w a n m.l) (hn9 : n ≤ 1000000) (hc : m.c.length ≤ 9223372036854775807) (hx : ∀ x ∈ m.l, LgL x) (hi : MiZ m) :
  Calls Tryz.prog 23 #[mgV m a n c] w fun e w' => e = .returned (.int .i64 (if mayBeM m then 0 else 130)) ∧ Hid (Below w.heap.size w w') := by
 by_cases h1 : m.k = 1
 ·exact rck1 m a n c w hl hn9 hc hx hi h1
 by_cases h2 : m.k = 2
 ·exact rck2 m a n c w hl hn9 hc hx hi h2
 by_cases h3 : m.k = 3
 ·exact rck3 m a n c w hl hn9 hc hx hi h3
 by_cases h4 : m.k = 4
 ·exact rck4 m a n c w hl hn9 hc hx hi h4
 by_cases h5 : m.k = 5
 ·exact rck5 m a n c w hl hn9 hc hx hi h5
 exact rck0 m a n c w hl hn9 hc hx hi ⟨h1, h2, h3, h4, h5⟩
end Go.Proofs.YtmpjeahibfdehaaGreatDoor
end
