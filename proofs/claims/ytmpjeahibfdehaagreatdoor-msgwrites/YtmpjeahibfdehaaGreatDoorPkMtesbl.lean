/-
  msg: the document's May of a logged mutation, all, version.
-/
import Derived.Test.YtmpjeahibfdehaaGreatDoorPkMtesbf
import Derived.Test.YtmpjeahibfdehaaGreatDoorPkMtesbh
import Derived.Test.YtmpjeahibfdehaaGreatDoorPkMtesbd
section
set_option linter.unusedVariables false
set_option maxRecDepth 1000000
namespace Go.Proofs.YtmpjeahibfdehaaGreatDoor
open Go.RowKit

theorem mu_neg (m : Mu) : (mayMu m == -1) = decide (mayMu m < 0) := by
 unfold mayMu
 repeat' split
 all_goals rfl
theorem rver_any (n : Int) (w : World) : Calls Tryz.prog 46 #[.int .i64 n] w fun e w' => e = .returned (.bool (verB n)) ∧ w' = w := by
 by_cases h0 : 0 ≤ n
 ·by_cases h1 : n ≤ 1099511627776
  ·have HE : Hid (verB n = true) := by show _ = _; unfold verB; simp [h0, h1]
   go_enter Tryz.func46, Tryz.ntmps46
   go_wp2_with fail
   go_ret
   exact ⟨by rw [uh HE]; try rfl, rfl⟩
  ·have HE : Hid (verB n = false) := by show _ = _; unfold verB; simp [h0, h1]
   go_enter Tryz.func46, Tryz.ntmps46
   go_wp2_with fail
   go_ret
   exact ⟨by rw [uh HE]; try rfl, rfl⟩
 ·have HE : Hid (verB n = false) := by show _ = _; unfold verB; simp [h0]
  go_enter Tryz.func46, Tryz.ntmps46
  go_wp2_with fail
  go_ret
  exact ⟨by rw [uh HE]; try rfl, rfl⟩
set_option maxHeartbeats 8000000 in
theorem rmay13 (x : Lg) (w : World) (hx : LgL x) :
  Calls Tryz.prog 36 #[lgV x] w fun e w' => e = .returned (.bool (mayLg x)) ∧ Hid (Below w.heap.size w w') := by
 unfold lgV
 obtain ⟨X, hX⟩ : ∃ X, X = w.heap.size := ⟨_, rfl⟩
 obtain ⟨W, hW⟩ : ∃ W, W = w.alloc (.cells #[.string (str x.c), .int .i64 x.id, .int .i64 x.m.k, .string (str x.m.i), .string (str x.m.n), .string (str x.m.t)] 28) := ⟨_, rfl⟩
 have bW : Below w.heap.size w W := by rw [hW]; exact bA _
 have rX : W.heap[X]? = some (.cells #[.string (str x.c), .int .i64 x.id, .int .i64 x.m.k, .string (str x.m.i), .string (str x.m.n), .string (str x.m.t)] 28 (0, 0)) := by rw [hW, hX]; exact heap_alloc_new _ _
 obtain ⟨p0, p1, p2, p3, p4, p5⟩ := cells6 rX
 have HBW := hide bW
 have HN := hide (rname_any x.c W hx.1)
 have HM := hide (rmay11 x.m.k x.m.i x.m.n x.m.t W hx.2.1 hx.2.2)
 obtain ⟨R, hR⟩ : ∃ R, R = mayLg x := ⟨_, rfl⟩
 rw [← hR]
 unfold mayLg at hR
 rw [← mu_neg] at hR
 have HR := hide hR
 clear hR bW rX hx
 go_enter Tryz.func36, Tryz.ntmps36
 go_upto_region 1 with fail
 rw [← hW, ← hX]
 clear hW hX
 go_wp2_with fail
 refine (uh HN).mono ?_
 rintro e w1 ⟨rfl, rfl⟩
 clear HN
 generalize nmOk x.c = bn at HR ⊢
 cases bn with
 | false =>
  have HF : Hid (R = false) := by show _ = _; rw [uh HR]; simp
  clear HR
  go_wp2_with fail
  go_ret
  exact ⟨by rw [uh HF]; try rfl, HBW⟩
 | true =>
  by_cases hid : 1 ≤ x.id
  rotate_left 1
  ·have HF : Hid (R = false) := by show _ = _; rw [uh HR]; simp [hid]
   clear HR
   go_wp2_with fail
   go_ret
   exact ⟨by rw [uh HF]; try rfl, HBW⟩
  ·have HF : Hid (R = (mayMu x.m == -1)) := by show _ = _; rw [uh HR]; simp [hid]
   clear HR
   go_wp2_with fail
   refine (uh HM).mono ?_
   rintro e w2 ⟨rfl, h2⟩
   have HB2 : Hid (Below w.heap.size w w2) := (uh HBW).trans ((uh h2).mono (uh HBW).size)
   have HE : Hid (mayMu x.m = mayMu ⟨x.m.k, x.m.i, x.m.n, x.m.t⟩) := rfl
   rw [uh HE] at HF
   generalize mayMu ⟨x.m.k, x.m.i, x.m.n, x.m.t⟩ = M at HF ⊢
   clear HM h2 HE HBW
   go_wp2_with fail
   go_ret
   exact ⟨by rw [uh HF]; try rfl, HB2⟩
def all8M (l : List Lg) : Bool := decide (∀ x ∈ l, mayLg x = true) && decide (l.length ≤ 8)
set_option maxHeartbeats 8000000 in
theorem rall_any (a : Option Addr) (n c : Nat) (l : List Lg) (w : World) (hl : LRow w a n l) (hx : ∀ x ∈ l, LgL x) (hn9 : n ≤ 1000000) :
  Calls Tryz.prog 45 #[.slice a n c] w fun e w' => e = .returned (.bool (all8M l)) ∧ Hid (Below w.heap.size w w') := by
 have HL := hide hl
 have HX := hide hx
 have HN : Hid (n = l.length) := hl.1
 have I0 : Hid (Below w.heap.size w w ∧ ∀ x ∈ l.take 0, mayLg x = true) := ⟨Below.refl _ _, by simp⟩
 clear hl hx
 go_enter Tryz.func45, Tryz.ntmps45
 go_wp2_with fail
 go_loopw [7] (fun v wr => ∃ q : Nat, q ≤ n ∧ v = .int .i64 (q : Int) ∧ Hid (Below w.heap.size w wr ∧ ∀ x ∈ l.take q, mayLg x = true)) (fun v _ => n - (intOf v).toNat)
 case atStart => exact ⟨0, Nat.zero_le _, rfl, I0⟩
 case round =>
  obtain ⟨q, hq, rfl, HI⟩ := hrel
  clear I0
  by_cases hlt : q < n
  ·have hlt' : (q : Int) < (n : Int) := by omega
   obtain ⟨x, hx⟩ : ∃ x, l[q]? = some x := ⟨_, List.getElem?_eq_getElem (by have := uh HN; omega)⟩
   obtain ⟨b, off, rfl, hbl, hc⟩ := ((uh HL).below (uh HI).1).2 (fun e => by rw [e] at hx; simp at hx)
   have g0 := hc q x hx 0 _ rfl
   have g1 := hc q x hx 1 _ rfl
   have g2 := hc q x hx 2 _ rfl
   have g3 := hc q x hx 3 _ rfl
   have g4 := hc q x hx 4 _ rfl
   have g5 := hc q x hx 5 _ rfl
   rw [Nat.add_zero] at g0
   obtain ⟨E, hE⟩ : ∃ E, E = wr.heap.size := ⟨_, rfl⟩
   obtain ⟨W5, h5⟩ : ∃ W5, W5 = wr.alloc (.cells #[.string (str x.c), .int .i64 x.id, .int .i64 x.m.k, .string (str x.m.i), .string (str x.m.n), .string (str x.m.t)] 28) := ⟨_, rfl⟩
   have b5 : Below wr.heap.size wr W5 := by rw [h5]; exact bA _
   have r5 : W5.heap[E]? = some (.cells #[.string (str x.c), .int .i64 x.id, .int .i64 x.m.k, .string (str x.m.i), .string (str x.m.n), .string (str x.m.t)] 28 (0, 0)) := by rw [h5, hE]; exact heap_alloc_new _ _
   obtain ⟨e0, e1, e2, e3, e4, e5⟩ := cells6 r5
   have HM := hide (rmay13 x W5 (uh HX x (List.mem_of_getElem? hx)))
   unfold lgV at HM
   have HB5 : Hid (Below w.heap.size w W5) := (uh HI).1.trans (b5.mono (uh HI).1.size)
   have HTK : Hid (mayLg x = true → ∀ y ∈ l.take (q + 1), mayLg y = true) := fun h y hy => by
    rw [List.take_add_one, hx] at hy
    simp only [Option.toList_some, List.mem_append, List.mem_singleton] at hy
    rcases hy with hy | rfl
    ·exact (uh HI).2 y hy
    ·exact h
   have HNO : Hid (mayLg x = false → all8M l = false) := fun h => by
    unfold all8M
    rw [decide_eq_false (fun hh => by have := hh x (List.mem_of_getElem? hx); rw [h] at this; cases this)]
    rfl
   clear hx hc hbl b5 r5 HI
   go_upto_region 4 with fail
   rw [← h5, ← hE]
   clear h5 hE g0 g1 g2 g3 g4 g5
   go_wp2_with fail
   refine (uh HM).mono ?_
   rintro e u ⟨rfl, hbu⟩
   have HB6 : Hid (Below w.heap.size w u) := (uh HB5).trans ((uh hbu).mono (uh HB5).size)
   clear HM e0 e1 e2 e3 e4 e5 hbu HB5
   generalize mayLg x = bm at HTK HNO ⊢
   cases bm with
   | false =>
    have HF := hide (uh HNO rfl)
    clear HTK HNO
    go_wp2_with fail
    go_ret
    exact ⟨by rw [uh HF]; try rfl, HB6⟩
   | true =>
    have HF : Hid (Below w.heap.size w u ∧ ∀ y ∈ l.take (q + 1), mayLg y = true) := ⟨uh HB6, uh HTK rfl⟩
    clear HTK HNO HB6
    go_wp2_with fail
    go_round
    case rel => exact ⟨q + 1, by omega, by go_num, HF⟩
    case measure => simp [intOf]; omega
  ·have hlt' : ¬ (q : Int) < (n : Int) := by omega
   obtain rfl : q = n := by omega
   have HD : Hid (Below w.heap.size w wr ∧ all8M l = decide (q ≤ 8)) := by
    have h := uh HI
    have e := uh HN
    refine ⟨h.1, ?_⟩
    unfold all8M
    rw [e, List.take_length] at h
    rw [decide_eq_true h.2, ← e]
    rfl
   clear HI HL
   by_cases h8 : q ≤ 8
   ·have h8' : (q : Int) ≤ 8 := by omega
    go_wp2_with fail
    go_ret
    exact ⟨by rw [(uh HD).2, decide_eq_true h8]; try rfl, (uh HD).1⟩
   ·have h8' : ¬ (q : Int) ≤ 8 := by omega
    go_wp2_with fail
    go_ret
    exact ⟨by rw [(uh HD).2, decide_eq_false h8]; try rfl, (uh HD).1⟩
end Go.Proofs.YtmpjeahibfdehaaGreatDoor
end
