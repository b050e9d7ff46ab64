/-
  msg: mayBe.; msg: Check, Write, Put.; msg: Read, Get.; msg: the statements' awake.; msg: how long the texts of messages that may be are; what is read is written and read as the same value.; msg: the mathematics of MsgOne.; msg: the mathematics of MsgBack and MsgFits.; msg: slices.Clone of logged mutations.
-/
import Derived.Test.YtmpjeahibfdehaaGreatDoorPkMtesbj
import Derived.Test.YtmpjeahibfdehaaGreatDoorPkMtesay
import Derived.Lib.ItoaLen
import Derived.Test.YtmpjeahibfdehaaGreatDoorPkMtesbi
import Derived.Test.YtmpjeahibfdehaaGreatDoorPkMtesbg
section
set_option linter.unusedVariables false
set_option maxRecDepth 1000000
namespace Go.Proofs.YtmpjeahibfdehaaGreatDoor
open Go.RowKit

def mayBeM (m : Mg) : Bool :=
 if m.k = 1 then (decide (m.fr = 0) && decide (m.co = 0) && decide (m.la = 0) && decide (m.top = 0)) && isPushB m
 else if m.k = 2 then (decide (m.c = []) && decide (m.fr = 0) && decide (m.co = 0) && decide (m.l.length = 0)) && decide (0 ≤ m.la) && verB m.top
 else if m.k = 3 then (decide (m.fr = 0) && decide (m.la = 0) && decide (m.top = 0) && decide (m.l.length = 0)) && nmOk m.c && verB m.co
 else if m.k = 4 then decide (m.c = []) && isPatchB m
 else if m.k = 5 then (decide (m.c = []) && decide (m.fr = 0) && decide (m.co = 0) && decide (m.la = 0) && decide (m.l.length = 0)) && verB m.top
 else false
set_option maxHeartbeats 16000000 in
theorem mayBe_any (m : Mg) (a : Option Addr) (n c : Nat) (w : World) (hT : Tb4 w) (hl : LRow w a n m.l) :
  Calls Tryz.prog 25 #[mgV m a n c] w fun e w' => e = .returned (.bool (mayBeM m)) ∧ Hid (Below w.heap.size w w') := by
 obtain ⟨X, hX⟩ : ∃ X, X = w.heap.size := ⟨_, rfl⟩
 obtain ⟨W, hW⟩ : ∃ W, W = w.alloc (.cells #[.int .i64 m.k, .string (str m.c), .int .i64 m.fr, .int .i64 m.co, .int .i64 m.la, .int .i64 m.top, .slice a n c] 24) := ⟨_, rfl⟩
 have bW : Below w.heap.size w W := by rw [hW]; exact bA _
 have rX : W.heap[X]? = some (.cells #[.int .i64 m.k, .string (str m.c), .int .i64 m.fr, .int .i64 m.co, .int .i64 m.la, .int .i64 m.top, .slice a n c] 24 (0, 0)) := by rw [hW, hX]; exact heap_alloc_new _ _
 have HFO := hide (fieldsOf_any m a n c W)
 have HPU : Hid (∀ u, Below W.heap.size W u → Calls Tryz.prog 51 #[mgV m a n c] u fun e w' => e = .returned (.bool (isPushB m)) ∧ Hid (Below u.heap.size u w')) := fun u hb => isPush_any m a n c u ((hT.below bW).below hb) ((hl.below bW).below hb)
 have HPA : Hid (∀ u, Below W.heap.size W u → Calls Tryz.prog 54 #[mgV m a n c] u fun e w' => e = .returned (.bool (isPatchB m)) ∧ Hid (Below u.heap.size u w')) := fun u hb => isPatch_any m a n c u ((hT.below bW).below hb) ((hl.below bW).below hb)
 unfold mgV at HFO HPU HPA ⊢
 have HN : Hid (n = m.l.length) := hl.1
 have HBW := hide bW
 have HX := hide rX
 obtain ⟨E, hE⟩ : ∃ E, E = mayBeM m := ⟨_, rfl⟩
 rw [← hE]
 unfold mayBeM at hE
 have HE := hide hE
 obtain ⟨p0, p1, p2, p3, p4, p5, p6⟩ := cells7 rX
 clear hE bW rX hT hl
 go_enter Tryz.func25, Tryz.ntmps25
 go_upto_region 1 with fail
 rw [← hW, ← hX]
 clear hW hX
 go_wp2_with fail
 refine (uh HFO).mono ?_
 rintro e u1 ⟨rfl, h1⟩
 obtain ⟨Z, hZ⟩ : ∃ Z, Z = u1.heap.size := ⟨_, rfl⟩
 obtain ⟨V, hV⟩ : ∃ V, V = u1.alloc (.cells #[.string (str m.c), .int .i64 m.fr, .int .i64 m.co, .int .i64 m.la, .int .i64 m.top, .int .i64 (n : Int)] 78) := ⟨_, rfl⟩
 have bV : Below u1.heap.size u1 V := by rw [hV]; exact bA _
 have bWV : Below W.heap.size W V := (uh h1).trans (bV.mono (uh h1).size)
 obtain ⟨f0, f1, f2, f3, f4, f5⟩ := cells6 (show V.heap[Z]? = some (.cells #[.string (str m.c), .int .i64 m.fr, .int .i64 m.co, .int .i64 m.la, .int .i64 m.top, .int .i64 (n : Int)] 78 (0, 0)) by rw [hV, hZ]; exact heap_alloc_new _ _)
 clear p0 p1 p2 p3 p4 p5 p6 HFO
 obtain ⟨p0, p1, p2, p3, p4, p5, p6⟩ := cells7 ((bWV.block X (aI (uh HX)).1).trans (uh HX))
 have HPU1 := hide (uh HPU V bWV)
 have HPA1 := hide (uh HPA V bWV)
 have HBV : Hid (Below w.heap.size w V) := (uh HBW).trans (bWV.mono (uh HBW).size)
 clear h1 bV bWV HPU HPA HX HBW
 go_upto_region 2 with fail
 rw [← hV, ← hZ]
 clear hV hZ
 by_cases h1 : m.k = 1
 ·have q1 : (m.k == 1) = true := by rw [beq_iff_eq]; omega
  have HEK := hide (uh HE)
  rw [if_pos h1] at HEK
  clear HE
  clear h1
  by_cases hfr : m.fr = 0
  rotate_left 1
  ·have HEF : Hid (E = false) := by show _ = _; rw [uh HEK, decide_eq_false hfr]; simp
   have e_hfr : (m.fr == 0) = false := by simpa using hfr
   clear hfr
   clear HPU1 HPA1
   clear HEK
   go_wp2_with fail
   go_ret
   exact ⟨by rw [uh HEF]; try rfl, HBV⟩
  by_cases hco : m.co = 0
  rotate_left 1
  ·have HEF : Hid (E = false) := by show _ = _; rw [uh HEK, decide_eq_false hco]; simp
   have e_hfr : (m.fr == 0) = true := by simpa using hfr
   have e_hco : (m.co == 0) = false := by simpa using hco
   clear hco hfr
   clear HPU1 HPA1
   clear HEK
   go_wp2_with fail
   go_ret
   exact ⟨by rw [uh HEF]; try rfl, HBV⟩
  by_cases hla : m.la = 0
  rotate_left 1
  ·have HEF : Hid (E = false) := by show _ = _; rw [uh HEK, decide_eq_false hla]; simp
   have e_hfr : (m.fr == 0) = true := by simpa using hfr
   have e_hco : (m.co == 0) = true := by simpa using hco
   have e_hla : (m.la == 0) = false := by simpa using hla
   clear hla hfr hco
   clear HPU1 HPA1
   clear HEK
   go_wp2_with fail
   go_ret
   exact ⟨by rw [uh HEF]; try rfl, HBV⟩
  by_cases htop : m.top = 0
  rotate_left 1
  ·have HEF : Hid (E = false) := by show _ = _; rw [uh HEK, decide_eq_false htop]; simp
   have e_hfr : (m.fr == 0) = true := by simpa using hfr
   have e_hco : (m.co == 0) = true := by simpa using hco
   have e_hla : (m.la == 0) = true := by simpa using hla
   have e_htop : (m.top == 0) = false := by simpa using htop
   clear htop hfr hco hla
   clear HPU1 HPA1
   clear HEK
   go_wp2_with fail
   go_ret
   exact ⟨by rw [uh HEF]; try rfl, HBV⟩
  have HEA := hide (uh HEK)
  rw [decide_eq_true hfr, decide_eq_true hco, decide_eq_true hla, decide_eq_true htop] at HEA
  have e_hfr : (m.fr == 0) = true := by simpa using hfr
  have e_hco : (m.co == 0) = true := by simpa using hco
  have e_hla : (m.la == 0) = true := by simpa using hla
  have e_htop : (m.top == 0) = true := by simpa using htop
  clear HEK hfr hco hla htop
  have HEF : Hid (E = isPushB m) := by show _ = _; rw [uh HEA]; simp
  clear HEA HPA1
  go_wp2_with fail
  refine (uh HPU1).mono ?_
  rintro e u2 ⟨rfl, h2⟩
  clear HPU1
  go_wp2_with fail
  go_ret
  exact ⟨by rw [uh HEF]; try rfl, (uh HBV).trans ((uh h2).mono (uh HBV).size)⟩
 by_cases h2 : m.k = 2
 ·have q1 : (m.k == 1) = false := by rw [beq_eq_false_iff_ne]; omega
  have q2 : (m.k == 2) = true := by rw [beq_iff_eq]; omega
  have HEK := hide (uh HE)
  rw [if_neg h1] at HEK
  rw [if_pos h2] at HEK
  clear HE
  clear h2 h1
  by_cases hc : m.c = []
  rotate_left 1
  ·have HEF : Hid (E = false) := by show _ = _; rw [uh HEK, decide_eq_false hc]; simp
   have e_c : (str m.c).toList.isEmpty = false := by rw [str_empty]; exact decide_eq_false hc
   have e_c2 : ((str m.c).toList == []) = false := by rw [toList_str]; simpa using hc
   clear hc
   clear HPU1 HPA1
   clear HEK
   go_wp2_with fail
   go_ret
   exact ⟨by rw [uh HEF]; try rfl, HBV⟩
  by_cases hfr : m.fr = 0
  rotate_left 1
  ·have HEF : Hid (E = false) := by show _ = _; rw [uh HEK, decide_eq_false hfr]; simp
   have e_c : (str m.c).toList.isEmpty = true := by rw [str_empty]; exact decide_eq_true hc
   have e_c2 : ((str m.c).toList == []) = true := by rw [toList_str]; rw [hc]; rfl
   have e_hfr : (m.fr == 0) = false := by simpa using hfr
   clear hfr hc
   clear HPU1 HPA1
   clear HEK
   go_wp2_with fail
   go_ret
   exact ⟨by rw [uh HEF]; try rfl, HBV⟩
  by_cases hco : m.co = 0
  rotate_left 1
  ·have HEF : Hid (E = false) := by show _ = _; rw [uh HEK, decide_eq_false hco]; simp
   have e_c : (str m.c).toList.isEmpty = true := by rw [str_empty]; exact decide_eq_true hc
   have e_c2 : ((str m.c).toList == []) = true := by rw [toList_str]; rw [hc]; rfl
   have e_hfr : (m.fr == 0) = true := by simpa using hfr
   have e_hco : (m.co == 0) = false := by simpa using hco
   clear hco hc hfr
   clear HPU1 HPA1
   clear HEK
   go_wp2_with fail
   go_ret
   exact ⟨by rw [uh HEF]; try rfl, HBV⟩
  by_cases hl : m.l.length = 0
  rotate_left 1
  ·have HEF : Hid (E = false) := by show _ = _; rw [uh HEK, decide_eq_false hl]; simp
   have e_c : (str m.c).toList.isEmpty = true := by rw [str_empty]; exact decide_eq_true hc
   have e_c2 : ((str m.c).toList == []) = true := by rw [toList_str]; rw [hc]; rfl
   have e_hfr : (m.fr == 0) = true := by simpa using hfr
   have e_hco : (m.co == 0) = true := by simpa using hco
   have e_l : ((n : Int) == 0) = false := by rw [uh HN]; simpa using hl
   clear hl hc hfr hco
   clear HPU1 HPA1
   clear HEK
   go_wp2_with fail
   go_ret
   exact ⟨by rw [uh HEF]; try rfl, HBV⟩
  have HEA := hide (uh HEK)
  rw [decide_eq_true hc, decide_eq_true hfr, decide_eq_true hco, decide_eq_true hl] at HEA
  have e_c : (str m.c).toList.isEmpty = true := by rw [str_empty]; exact decide_eq_true hc
  have e_c2 : ((str m.c).toList == []) = true := by rw [toList_str]; rw [hc]; rfl
  have e_hfr : (m.fr == 0) = true := by simpa using hfr
  have e_hco : (m.co == 0) = true := by simpa using hco
  have e_l : ((n : Int) == 0) = true := by rw [uh HN]; simpa using hl
  clear HEK hc hfr hco hl
  by_cases hla : 0 ≤ m.la
  rotate_left 1
  ·have HEF : Hid (E = false) := by show _ = _; rw [uh HEA, decide_eq_false hla]; simp
   have la' : ¬ (m.la ≥ 0) := by omega
   clear HEA HPU1 HPA1
   go_wp2_with fail
   go_ret
   exact ⟨by rw [uh HEF]; try rfl, HBV⟩
  have HEF : Hid (E = verB m.top) := by show _ = _; rw [uh HEA, decide_eq_true hla]; simp
  have la' : m.la ≥ 0 := hla
  clear HEA HPU1 HPA1
  go_wp2_with (go_at_call 52; refine (isVersion_any m.top _).mono ?_; rintro e u2 ⟨rfl, rfl⟩)
  go_ret
  exact ⟨by rw [uh HEF]; try rfl, HBV⟩
 by_cases h3 : m.k = 3
 ·have q1 : (m.k == 1) = false := by rw [beq_eq_false_iff_ne]; omega
  have q2 : (m.k == 2) = false := by rw [beq_eq_false_iff_ne]; omega
  have q3 : (m.k == 3) = true := by rw [beq_iff_eq]; omega
  have HEK := hide (uh HE)
  rw [if_neg h1] at HEK
  rw [if_neg h2] at HEK
  rw [if_pos h3] at HEK
  clear HE
  clear h3 h2 h1
  by_cases hfr : m.fr = 0
  rotate_left 1
  ·have HEF : Hid (E = false) := by show _ = _; rw [uh HEK, decide_eq_false hfr]; simp
   have e_hfr : (m.fr == 0) = false := by simpa using hfr
   clear hfr
   clear HPU1 HPA1
   clear HEK
   go_wp2_with fail
   go_ret
   exact ⟨by rw [uh HEF]; try rfl, HBV⟩
  by_cases hla : m.la = 0
  rotate_left 1
  ·have HEF : Hid (E = false) := by show _ = _; rw [uh HEK, decide_eq_false hla]; simp
   have e_hfr : (m.fr == 0) = true := by simpa using hfr
   have e_hla : (m.la == 0) = false := by simpa using hla
   clear hla hfr
   clear HPU1 HPA1
   clear HEK
   go_wp2_with fail
   go_ret
   exact ⟨by rw [uh HEF]; try rfl, HBV⟩
  by_cases htop : m.top = 0
  rotate_left 1
  ·have HEF : Hid (E = false) := by show _ = _; rw [uh HEK, decide_eq_false htop]; simp
   have e_hfr : (m.fr == 0) = true := by simpa using hfr
   have e_hla : (m.la == 0) = true := by simpa using hla
   have e_htop : (m.top == 0) = false := by simpa using htop
   clear htop hfr hla
   clear HPU1 HPA1
   clear HEK
   go_wp2_with fail
   go_ret
   exact ⟨by rw [uh HEF]; try rfl, HBV⟩
  by_cases hl : m.l.length = 0
  rotate_left 1
  ·have HEF : Hid (E = false) := by show _ = _; rw [uh HEK, decide_eq_false hl]; simp
   have e_hfr : (m.fr == 0) = true := by simpa using hfr
   have e_hla : (m.la == 0) = true := by simpa using hla
   have e_htop : (m.top == 0) = true := by simpa using htop
   have e_l : ((n : Int) == 0) = false := by rw [uh HN]; simpa using hl
   clear hl hfr hla htop
   clear HPU1 HPA1
   clear HEK
   go_wp2_with fail
   go_ret
   exact ⟨by rw [uh HEF]; try rfl, HBV⟩
  have HEA := hide (uh HEK)
  rw [decide_eq_true hfr, decide_eq_true hla, decide_eq_true htop, decide_eq_true hl] at HEA
  have e_hfr : (m.fr == 0) = true := by simpa using hfr
  have e_hla : (m.la == 0) = true := by simpa using hla
  have e_htop : (m.top == 0) = true := by simpa using htop
  have e_l : ((n : Int) == 0) = true := by rw [uh HN]; simpa using hl
  clear HEK hfr hla htop hl
  generalize hnm : nmOk m.c = bn at HEA
  have HNM : Hid (∀ u, Calls Tryz.prog 53 #[.string (str m.c)] u fun e w' => e = .returned (.bool bn) ∧ w' = u) := fun u => by rw [← hnm]; exact name_all m.c u
  clear hnm HPU1 HPA1
  cases bn with
  | false =>
   have HEF : Hid (E = false) := by show _ = _; rw [uh HEA]; simp
   clear HEA
   go_wp2_with (go_at_call 53; refine (uh HNM _).mono ?_; rintro e u2 ⟨rfl, rfl⟩)
   go_ret
   exact ⟨by rw [uh HEF]; try rfl, HBV⟩
  | true =>
   have HEF : Hid (E = verB m.co) := by show _ = _; rw [uh HEA]; simp
   clear HEA
   go_wp2_with (first | (go_at_call 53; refine (uh HNM _).mono ?_; rintro e u2 ⟨rfl, rfl⟩) | (go_at_call 52; refine (isVersion_any m.co _).mono ?_; rintro e u2 ⟨rfl, rfl⟩))
   go_ret
   exact ⟨by rw [uh HEF]; try rfl, HBV⟩
 by_cases h4 : m.k = 4
 ·have q1 : (m.k == 1) = false := by rw [beq_eq_false_iff_ne]; omega
  have q2 : (m.k == 2) = false := by rw [beq_eq_false_iff_ne]; omega
  have q3 : (m.k == 3) = false := by rw [beq_eq_false_iff_ne]; omega
  have q4 : (m.k == 4) = true := by rw [beq_iff_eq]; omega
  have HEK := hide (uh HE)
  rw [if_neg h1] at HEK
  rw [if_neg h2] at HEK
  rw [if_neg h3] at HEK
  rw [if_pos h4] at HEK
  clear HE
  clear h4 h3 h2 h1
  by_cases hc : m.c = []
  rotate_left 1
  ·have HEF : Hid (E = false) := by show _ = _; rw [uh HEK, decide_eq_false hc]; simp
   have e_c : (str m.c).toList.isEmpty = false := by rw [str_empty]; exact decide_eq_false hc
   have e_c2 : ((str m.c).toList == []) = false := by rw [toList_str]; simpa using hc
   clear hc
   clear HPU1 HPA1
   clear HEK
   go_wp2_with fail
   go_ret
   exact ⟨by rw [uh HEF]; try rfl, HBV⟩
  have HEA := hide (uh HEK)
  rw [decide_eq_true hc] at HEA
  have e_c : (str m.c).toList.isEmpty = true := by rw [str_empty]; exact decide_eq_true hc
  have e_c2 : ((str m.c).toList == []) = true := by rw [toList_str]; rw [hc]; rfl
  clear HEK hc
  have HEF : Hid (E = isPatchB m) := by show _ = _; rw [uh HEA]; simp
  clear HEA HPU1
  go_wp2_with fail
  refine (uh HPA1).mono ?_
  rintro e u2 ⟨rfl, h2⟩
  clear HPA1
  go_wp2_with fail
  go_ret
  exact ⟨by rw [uh HEF]; try rfl, (uh HBV).trans ((uh h2).mono (uh HBV).size)⟩
 by_cases h5 : m.k = 5
 ·have q1 : (m.k == 1) = false := by rw [beq_eq_false_iff_ne]; omega
  have q2 : (m.k == 2) = false := by rw [beq_eq_false_iff_ne]; omega
  have q3 : (m.k == 3) = false := by rw [beq_eq_false_iff_ne]; omega
  have q4 : (m.k == 4) = false := by rw [beq_eq_false_iff_ne]; omega
  have q5 : (m.k == 5) = true := by rw [beq_iff_eq]; omega
  have HEK := hide (uh HE)
  rw [if_neg h1] at HEK
  rw [if_neg h2] at HEK
  rw [if_neg h3] at HEK
  rw [if_neg h4] at HEK
  rw [if_pos h5] at HEK
  clear HE
  clear h5 h4 h3 h2 h1
  by_cases hc : m.c = []
  rotate_left 1
  ·have HEF : Hid (E = false) := by show _ = _; rw [uh HEK, decide_eq_false hc]; simp
   have e_c : (str m.c).toList.isEmpty = false := by rw [str_empty]; exact decide_eq_false hc
   have e_c2 : ((str m.c).toList == []) = false := by rw [toList_str]; simpa using hc
   clear hc
   clear HPU1 HPA1
   clear HEK
   go_wp2_with fail
   go_ret
   exact ⟨by rw [uh HEF]; try rfl, HBV⟩
  by_cases hfr : m.fr = 0
  rotate_left 1
  ·have HEF : Hid (E = false) := by show _ = _; rw [uh HEK, decide_eq_false hfr]; simp
   have e_c : (str m.c).toList.isEmpty = true := by rw [str_empty]; exact decide_eq_true hc
   have e_c2 : ((str m.c).toList == []) = true := by rw [toList_str]; rw [hc]; rfl
   have e_hfr : (m.fr == 0) = false := by simpa using hfr
   clear hfr hc
   clear HPU1 HPA1
   clear HEK
   go_wp2_with fail
   go_ret
   exact ⟨by rw [uh HEF]; try rfl, HBV⟩
  by_cases hco : m.co = 0
  rotate_left 1
  ·have HEF : Hid (E = false) := by show _ = _; rw [uh HEK, decide_eq_false hco]; simp
   have e_c : (str m.c).toList.isEmpty = true := by rw [str_empty]; exact decide_eq_true hc
   have e_c2 : ((str m.c).toList == []) = true := by rw [toList_str]; rw [hc]; rfl
   have e_hfr : (m.fr == 0) = true := by simpa using hfr
   have e_hco : (m.co == 0) = false := by simpa using hco
   clear hco hc hfr
   clear HPU1 HPA1
   clear HEK
   go_wp2_with fail
   go_ret
   exact ⟨by rw [uh HEF]; try rfl, HBV⟩
  by_cases hla : m.la = 0
  rotate_left 1
  ·have HEF : Hid (E = false) := by show _ = _; rw [uh HEK, decide_eq_false hla]; simp
   have e_c : (str m.c).toList.isEmpty = true := by rw [str_empty]; exact decide_eq_true hc
   have e_c2 : ((str m.c).toList == []) = true := by rw [toList_str]; rw [hc]; rfl
   have e_hfr : (m.fr == 0) = true := by simpa using hfr
   have e_hco : (m.co == 0) = true := by simpa using hco
   have e_hla : (m.la == 0) = false := by simpa using hla
   clear hla hc hfr hco
   clear HPU1 HPA1
   clear HEK
   go_wp2_with fail
   go_ret
   exact ⟨by rw [uh HEF]; try rfl, HBV⟩
  by_cases hl : m.l.length = 0
  rotate_left 1
  ·have HEF : Hid (E = false) := by show _ = _; rw [uh HEK, decide_eq_false hl]; simp
   have e_c : (str m.c).toList.isEmpty = true := by rw [str_empty]; exact decide_eq_true hc
   have e_c2 : ((str m.c).toList == []) = true := by rw [toList_str]; rw [hc]; rfl
   have e_hfr : (m.fr == 0) = true := by simpa using hfr
   have e_hco : (m.co == 0) = true := by simpa using hco
   have e_hla : (m.la == 0) = true := by simpa using hla
   have e_l : ((n : Int) == 0) = false := by rw [uh HN]; simpa using hl
   clear hl hc hfr hco hla
   clear HPU1 HPA1
   clear HEK
   go_wp2_with fail
   go_ret
   exact ⟨by rw [uh HEF]; try rfl, HBV⟩
  have HEA := hide (uh HEK)
  rw [decide_eq_true hc, decide_eq_true hfr, decide_eq_true hco, decide_eq_true hla, decide_eq_true hl] at HEA
  have e_c : (str m.c).toList.isEmpty = true := by rw [str_empty]; exact decide_eq_true hc
  have e_c2 : ((str m.c).toList == []) = true := by rw [toList_str]; rw [hc]; rfl
  have e_hfr : (m.fr == 0) = true := by simpa using hfr
  have e_hco : (m.co == 0) = true := by simpa using hco
  have e_hla : (m.la == 0) = true := by simpa using hla
  have e_l : ((n : Int) == 0) = true := by rw [uh HN]; simpa using hl
  clear HEK hc hfr hco hla hl
  have HEF : Hid (E = verB m.top) := by show _ = _; rw [uh HEA]; simp
  clear HEA HPU1 HPA1
  go_wp2_with (go_at_call 52; refine (isVersion_any m.top _).mono ?_; rintro e u2 ⟨rfl, rfl⟩)
  go_ret
  exact ⟨by rw [uh HEF]; try rfl, HBV⟩
 have q1 : (m.k == 1) = false := by rw [beq_eq_false_iff_ne]; omega
 have q2 : (m.k == 2) = false := by rw [beq_eq_false_iff_ne]; omega
 have q3 : (m.k == 3) = false := by rw [beq_eq_false_iff_ne]; omega
 have q4 : (m.k == 4) = false := by rw [beq_eq_false_iff_ne]; omega
 have q5 : (m.k == 5) = false := by rw [beq_eq_false_iff_ne]; omega
 have HEK := hide (uh HE)
 rw [if_neg h1] at HEK
 rw [if_neg h2] at HEK
 rw [if_neg h3] at HEK
 rw [if_neg h4] at HEK
 rw [if_neg h5] at HEK
 clear HE
 have HEF : Hid (E = false) := hide (uh HEK)
 clear h1 h2 h3 h4 h5 HPU1 HPA1
 clear HEK
 go_wp2_with fail
 go_ret
 exact ⟨by rw [uh HEF]; try rfl, HBV⟩
end Go.Proofs.YtmpjeahibfdehaaGreatDoor
end
section
set_option linter.unusedVariables false
set_option maxRecDepth 1000000
namespace Go.Proofs.YtmpjeahibfdehaaGreatDoor
open Go.RowKit

/-- Numbers and texts are such as memory has. -/
def LgZ (x : Lg) : Prop := (-9223372036854775808 ≤ x.id ∧ x.id ≤ 9223372036854775807) ∧ (-9223372036854775808 ≤ x.m.k ∧ x.m.k ≤ 9223372036854775807) ∧ x.c.length ≤ 100000 ∧ x.m.i.length ≤ 100000 ∧ x.m.n.length ≤ 100000 ∧ x.m.t.length ≤ 100000
def MgZ (m : Mg) : Prop := (-9223372036854775808 ≤ m.k ∧ m.k ≤ 9223372036854775807) ∧ (-9223372036854775808 ≤ m.fr ∧ m.fr ≤ 9223372036854775807) ∧ (-9223372036854775808 ≤ m.co ∧ m.co ≤ 9223372036854775807) ∧ (-9223372036854775808 ≤ m.la ∧ m.la ≤ 9223372036854775807) ∧ (-9223372036854775808 ≤ m.top ∧ m.top ≤ 9223372036854775807) ∧ m.c.length ≤ 100000 ∧ m.l.length ≤ 100000 ∧ ∀ x ∈ m.l, LgZ x
theorem tx_len (x : List UInt8) (j : Js) (h : Sz j) : (tIn x j).length ≤ 100000 ∧ (-9223372036854775808 ≤ nIn x j ∧ nIn x j ≤ 9223372036854775807) := by
 have hg := sz_get x j h
 unfold jIn at hg
 unfold tIn nIn
 generalize (gtM x j).getD Js.nul = g at hg ⊢
 obtain ⟨k, n, t, ns, is⟩ := g
 simp only [Sz] at hg
 exact ⟨hg.2.1, hg.1⟩
theorem lz_in (j : Js) (h : Sz j) : LgZ (lgIn j) :=
 ⟨(tx_len _ j h).2, (tx_len _ _ (sz_get _ j h)).2, (tx_len _ j h).1, (tx_len _ _ (sz_get _ j h)).1, (tx_len _ _ (sz_get _ j h)).1, (tx_len _ _ (sz_get _ j h)).1⟩
theorem kd_in (t : List UInt8) : 0 ≤ kdM t ∧ kdM t ≤ 5 := by
 unfold kdM
 repeat' split
 all_goals omega
theorem it_len (x : List UInt8) (j : Js) (h : Sz j) : (iIn x j).length ≤ 100000 := by
 have hg := sz_get x j h
 unfold jIn at hg
 unfold iIn
 generalize (gtM x j).getD Js.nul = g at hg ⊢
 obtain ⟨k, n, t, ns, is⟩ := g
 simp only [Sz] at hg
 exact hg.2.2.2.1
theorem mz_in (j : Js) (h : Sz j) : MgZ (msgIn j) := by
 have hk := kd_in (tIn [116, 121, 112, 101] j)
 refine ⟨⟨by show _ ≤ kdM _; omega, by show kdM _ ≤ _; omega⟩, (tx_len _ j h).2, (tx_len _ j h).2, (tx_len _ j h).2, (tx_len _ j h).2, (tx_len _ j h).1, ?_, ?_⟩
 ·show (List.map _ _).length ≤ _
  rw [List.length_map]
  exact it_len _ j h
 ·intro x hx
  obtain ⟨i, hi, rfl⟩ := List.mem_map.1 hx
  have hz := lz_in i (sz_items _ j h i hi)
  split
  ·exact ⟨hz.1, hz.2.1, (tx_len _ j h).1, hz.2.2.2⟩
  ·exact hz
theorem sz_text {t : List UInt8} (h : t.length ≤ 100000) : Sz (.mk 3 0 t [] []) := sz_flat 3 0 t (by omega) h
theorem sz_num {n : Int} (h : (-9223372036854775808 ≤ n ∧ n ≤ 9223372036854775807)) : Sz (.mk 2 n [] [] []) := sz_flat 2 n [] h (by simp)
theorem sz_obj {ns : List (List UInt8)} {is : List Js} (h1 : ns.length ≤ 100000) (h2 : is.length ≤ 100000) (h3 : ∀ s ∈ ns, s.length ≤ 100000) (h4 : ∀ j ∈ is, Sz j) (k : Int) : Sz (.mk k 0 [] ns is) := by
 simp only [Sz]
 exact ⟨by omega, by simp, h1, h2, h3, (szs_iff is).2 h4⟩
theorem sz_mu (x : Mu) (hk : (-9223372036854775808 ≤ x.k ∧ x.k ≤ 9223372036854775807)) (h1 : x.i.length ≤ 100000) (h2 : x.n.length ≤ 100000) (h3 : x.t.length ≤ 100000) : Sz (muJ x) := by
 refine sz_obj (by simp) (by simp) (fun s hs => by simp at hs; rcases hs with rfl | rfl | rfl | rfl <;> simp) (fun j hj => ?_) 5
 simp at hj
 rcases hj with rfl | rfl | rfl | rfl
 ·exact sz_num hk
 ·exact sz_text h1
 ·exact sz_text h2
 ·exact sz_text h3
theorem sz_lg (x : Lg) (h : LgZ x) : Sz (lgJ x) := by
 refine sz_obj (by simp) (by simp) (fun s hs => by simp at hs; rcases hs with rfl | rfl | rfl <;> simp) (fun j hj => ?_) 5
 simp at hj
 rcases hj with rfl | rfl | rfl
 ·exact sz_text h.2.2.1
 ·exact sz_num h.1
 ·exact sz_mu x.m h.2.1 h.2.2.2.1 h.2.2.2.2.1 h.2.2.2.2.2
theorem sz_nu (x : Lg) (h : LgZ x) : Sz (nuJ x) := by
 refine sz_obj (by simp) (by simp) (fun s hs => by simp at hs; rcases hs with rfl | rfl <;> simp) (fun j hj => ?_) 5
 simp at hj
 rcases hj with rfl | rfl
 ·exact sz_num h.1
 ·exact sz_mu x.m h.2.1 h.2.2.2.1 h.2.2.2.2.1 h.2.2.2.2.2
theorem ty_len (k : Int) : (tyM k).length ≤ 100000 := by
 unfold tyM
 repeat' split
 all_goals simp
theorem sz_row (f : Lg → Js) (l : List Lg) (hl : l.length ≤ 100000) (hf : ∀ x ∈ l, Sz (f x)) : Sz (.mk 4 0 [] [] (l.map f)) :=
 sz_obj (by simp) (by rw [List.length_map]; exact hl) (fun s hs => by simp at hs) (fun j hj => by obtain ⟨x, hx, rfl⟩ := List.mem_map.1 hj; exact hf x hx) 4
theorem sz_vl (m : Mg) (h : MgZ m) : Sz (vlJ m) := by
 obtain ⟨h1, h2, h3, h4, h5, h6, h7, h8⟩ := h
 have hn := sz_row nuJ m.l h7 (fun x hx => sz_nu x (h8 x hx))
 have hg := sz_row lgJ m.l h7 (fun x hx => sz_lg x (h8 x hx))
 have ht := sz_text (ty_len m.k)
 unfold vlJ
 repeat' split
 all_goals
  refine sz_obj (by simp) (by simp) (fun s hs => by simp at hs; (repeat' (rcases hs with rfl | hs)) <;> (try subst hs) <;> simp) (fun j hj => ?_) 5
  simp at hj
  (repeat' (rcases hj with rfl | hj)) <;> (try subst hj) <;> first | exact ht | exact hn | exact hg | exact sz_text h6 | exact sz_num h2 | exact sz_num h3 | exact sz_num h4 | exact sz_num h5
def wrM (m : Mg) : List UInt8 × Nat := if mayBeM m then prM (vlJ m) else ([], 130)
set_option maxHeartbeats 8000000 in
theorem write_any (m : Mg) (a : Option Addr) (n c : Nat) (w : World) (hE : Env4 w) (hl : LRow w a n m.l) (hz : mayBeM m = true → MgZ m) :
  Calls Tryz.prog 11 #[mgV m a n c] w fun e w' => e = .returned (.tuple #[.string (str (wrM m).1), .int .i64 (((wrM m).2 : Nat) : Int)]) ∧ Hid (Below w.heap.size w w') := by
 obtain ⟨X, hX⟩ : ∃ X, X = w.heap.size := ⟨_, rfl⟩
 obtain ⟨W, hW⟩ : ∃ W, W = w.alloc (.cells #[.int .i64 m.k, .string (str m.c), .int .i64 m.fr, .int .i64 m.co, .int .i64 m.la, .int .i64 m.top, .slice a n c] 24) := ⟨_, rfl⟩
 have bW : Below w.heap.size w W := by rw [hW]; exact bA _
 have rX : W.heap[X]? = some (.cells #[.int .i64 m.k, .string (str m.c), .int .i64 m.fr, .int .i64 m.co, .int .i64 m.la, .int .i64 m.top, .slice a n c] 24 (0, 0)) := by rw [hW, hX]; exact heap_alloc_new _ _
 have HMB := hide (mayBe_any m a n c W (hE.below bW).tb (hl.below bW))
 have HVL : Hid (mayBeM m = true → ∀ u, Below W.heap.size W u → Calls Tryz.prog 27 #[mgV m a n c] u fun e w' => ∃ v, e = .returned v ∧ Hid (JV w' (Nw u w') v (vlJ m)) ∧ Hid (Below u.heap.size u w')) := fun hm u hb => value_any2 m a n c u ((hl.below bW).below hb) (by have := hl.1; have := (hz hm).2.2.2.2.2.2.1; omega)
 have HPR : Hid (mayBeM m = true → ∀ u v u0, Below W.heap.size W u → JV u (Nw u0 u) v (vlJ m) → Calls Tryz.prog 26 #[v] u fun e w' => e = .returned (.tuple #[.string (str (prM (vlJ m)).1), .int .i64 ((prM (vlJ m)).2 : Int)]) ∧ Hid (Below u.heap.size u w')) := fun hm u v u0 hb hj => print_any (vlJ m) _ v u ((hE.below bW).tb.below hb) ((hE.below bW).pt.below hb) hj (fun k hk => hk.2) (sz_vl m (hz hm))
 unfold mgV at HMB HVL ⊢
 have HX := hide rX
 have HBW := hide bW
 obtain ⟨M, hM⟩ : ∃ M, M = wrM m := ⟨_, rfl⟩
 rw [← hM]
 unfold wrM at hM
 generalize mayBeM m = bm at HMB HVL HPR hM
 generalize prM (vlJ m) = PJ at HPR hM
 obtain ⟨p0, p1, p2, p3, p4, p5, p6⟩ := cells7 rX
 clear bW rX hE hl hz
 go_enter Tryz.func11, Tryz.ntmps11
 go_upto_region 1 with fail
 rw [← hW, ← hX]
 clear hW hX
 go_wp2_with fail
 refine (uh HMB).mono ?_
 rintro e u1 ⟨rfl, h1⟩
 have HB1 : Hid (Below w.heap.size w u1) := (uh HBW).trans ((uh h1).mono (uh HBW).size)
 clear HMB
 cases bm with
 | false =>
  have HM : Hid (M = ([], 130)) := by show _ = _; rw [hM]; simp
  clear hM HVL HPR h1
  go_wp2_with fail
  go_ret2
  exact ⟨by rw [uh HM]; rfl, HB1⟩
 | true =>
  have HM : Hid (M = PJ) := by show _ = _; rw [hM]; simp
  clear hM p0 p1 p2 p3 p4 p5 p6
  obtain ⟨p0, p1, p2, p3, p4, p5, p6⟩ := cells7 (((uh h1).block X (aI (uh HX)).1).trans (uh HX))
  have HV1 := hide (uh HVL rfl u1 (uh h1))
  clear HVL
  go_wp2_with fail
  refine (uh HV1).mono ?_
  rintro e u2 ⟨v, rfl, hj, h2⟩
  obtain ⟨jk, jn, jt, ja1, jn1, jc1, ja2, jn2, jc2, rfl⟩ := (uh hj).form
  have HP2 := hide (uh HPR (by first | rfl | trivial) u2 _ u1 ((uh h1).trans ((uh h2).mono (uh h1).size)) (uh hj))
  have HB2 : Hid (Below w.heap.size w u2) := (uh HB1).trans ((uh h2).mono (uh HB1).size)
  clear HPR HV1 h1 h2 hj
  go_wp2_with fail
  refine (uh HP2).mono ?_
  rintro e u3 ⟨rfl, h3⟩
  have HB3 : Hid (Below w.heap.size w u3) := (uh HB2).trans ((uh h3).mono (uh HB2).size)
  clear HP2 h3
  go_wp2_with fail
  go_ret2
  exact ⟨by rw [uh HM]; try rfl, HB3⟩
set_option maxHeartbeats 4000000 in
theorem check_any2 (m : Mg) (a : Option Addr) (n c : Nat) (w : World) (hE : Env4 w) (hl : LRow w a n m.l) :
  Calls Tryz.prog 18 #[mgV m a n c] w fun e w' => e = .returned (.int .i64 (if mayBeM m then 0 else 130)) ∧ Hid (Below w.heap.size w w') := by
 obtain ⟨X, hX⟩ : ∃ X, X = w.heap.size := ⟨_, rfl⟩
 obtain ⟨W, hW⟩ : ∃ W, W = w.alloc (.cells #[.int .i64 m.k, .string (str m.c), .int .i64 m.fr, .int .i64 m.co, .int .i64 m.la, .int .i64 m.top, .slice a n c] 24) := ⟨_, rfl⟩
 have bW : Below w.heap.size w W := by rw [hW]; exact bA _
 have rX : W.heap[X]? = some (.cells #[.int .i64 m.k, .string (str m.c), .int .i64 m.fr, .int .i64 m.co, .int .i64 m.la, .int .i64 m.top, .slice a n c] 24 (0, 0)) := by rw [hW, hX]; exact heap_alloc_new _ _
 have HMB := hide (mayBe_any m a n c W (hE.below bW).tb (hl.below bW))
 unfold mgV at HMB ⊢
 have HBW := hide bW
 generalize mayBeM m = bm at HMB ⊢
 obtain ⟨p0, p1, p2, p3, p4, p5, p6⟩ := cells7 rX
 clear bW rX hE hl
 go_enter Tryz.func18, Tryz.ntmps18
 go_upto_region 1 with fail
 rw [← hW, ← hX]
 clear hW hX
 go_wp2_with fail
 refine (uh HMB).mono ?_
 rintro e u1 ⟨rfl, h1⟩
 have HB1 : Hid (Below w.heap.size w u1) := (uh HBW).trans ((uh h1).mono (uh HBW).size)
 clear HMB h1
 cases bm with
 | false =>
  go_wp2_with fail
  go_ret
  exact ⟨rfl, HB1⟩
 | true =>
  go_wp2_with fail
  go_ret
  exact ⟨rfl, HB1⟩
end Go.Proofs.YtmpjeahibfdehaaGreatDoor
end
section
set_option linter.unusedVariables false
set_option maxRecDepth 1000000
namespace Go.Proofs.YtmpjeahibfdehaaGreatDoor
open Go.RowKit

def mg0 : Mg := ⟨0, [], 0, 0, 0, 0, []⟩
def erN (b : Bool) : Int := if b then 0 else 130
def rdOk (s : List UInt8) : Bool := mayBeM (msgIn (psM s).1) && saM (vlJ (msgIn (psM s).1)) (psM s).1
def rdG (s : List UInt8) : Mg := if rdOk s then msgIn (psM s).1 else mg0
theorem lrow_ne {u : World} {b off R : Nat} {x : Lg} (row : u.heap[R]? = some (.cells #[.int .i64 0, .string ⟨#[]⟩, .int .i64 0, .int .i64 0, .int .i64 0, .int .i64 0, .slice none 0 0] 24 (0, 0))) (hc : ∀ r v, (lgC x)[r]? = some v → u.cell? ⟨b, off + 0 * 6 + r, none⟩ = some v) : b ≠ R := by
 rintro rfl
 have h0 := hc 0 _ rfl
 have h3 := hc 3 _ rfl
 have h5 := hc 5 _ rfl
 rw [cR6 row] at h0 h3 h5
 rcases (show off = 0 ∨ off = 1 ∨ 2 ≤ off by omega) with rfl | rfl | ho
 ·simp at h0
 ·simp at h3
 ·rw [Array.getElem?_eq_none (by simp; omega)] at h5
  cases h5
set_option maxHeartbeats 16000000 in
theorem read_any2 (s : List UInt8) (w : World) (hE : Env4 w) :
  Calls Tryz.prog 12 #[.string (str s)] w fun e w' => ∃ a n c, e = .returned (.tuple #[mgV (rdG s) a n c, .int .i64 (erN (rdOk s))]) ∧ Hid (LRow w' a n (rdG s).l) ∧ Hid (Below w.heap.size w w') := by
 obtain ⟨R, hR⟩ : ∃ R, R = w.heap.size := ⟨_, rfl⟩
 obtain ⟨W, hW⟩ : ∃ W, W = w.alloc (.cells #[.int .i64 0, .string ⟨#[]⟩, .int .i64 0, .int .i64 0, .int .i64 0, .int .i64 0, .slice none 0 0] 24) := ⟨_, rfl⟩
 have bW : Below w.heap.size w W := by rw [hW]; exact bA _
 have rR : W.heap[R]? = some (.cells #[.int .i64 0, .string ⟨#[]⟩, .int .i64 0, .int .i64 0, .int .i64 0, .int .i64 0, .slice none 0 0] 24 (0, 0)) := by rw [hW, hR]; exact heap_alloc_new _ _
 have HEW := hide (hE.below bW)
 have HPS := hide (parse_any s W (hE.below bW).tb (hE.below bW).et)
 have HRR := hide rR
 have HBW := hide bW
 have HRs : Hid (R = w.heap.size ∧ W.heap.size = w.heap.size + 1) := ⟨hR, by rw [hW]; simp⟩
 have HGD := hide (psM_good s)
 unfold PsP at HPS
 obtain ⟨j, hj⟩ : ∃ j, j = (psM s).1 := ⟨_, rfl⟩
 have HOK : Hid (rdOk s = (mayBeM (msgIn j) && saM (vlJ (msgIn j)) j)) := by show _ = _; unfold rdOk; rw [hj]
 have HRM : Hid (rdG s = if rdOk s then msgIn j else mg0) := by show _ = _; unfold rdG; rw [hj]
 rw [← hj] at HPS HGD
 generalize (psM s).2.1 = x1 at HPS
 generalize (psM s).2.2 = x2 at HPS
 generalize rdG s = RM at HRM ⊢
 generalize rdOk s = OK at HOK HRM ⊢
 clear hj bW rR hE
 go_enter Tryz.func12, Tryz.ntmps12
 go_upto_region 1 with fail
 rw [← hW, ← hR]
 clear hW hR
 go_wp2_with fail
 refine (uh HPS).mono ?_
 rintro e u1 ⟨hb1, ht1, vj, rfl, hJ1⟩
 obtain ⟨jk, jn, jt, ja1, jn1, jc1, ja2, jn2, jc2, rfl⟩ := hJ1.form
 obtain ⟨V, hV⟩ : ∃ V, V = u1.heap.size := ⟨_, rfl⟩
 obtain ⟨W1, hW1⟩ : ∃ W1, W1 = u1.alloc (.cells #[.int .i64 jk, .int .i64 jn, .string (str jt), .slice ja1 jn1 jc1, .slice ja2 jn2 jc2] 44) := ⟨_, rfl⟩
 have b1 : Below u1.heap.size u1 W1 := by rw [hW1]; exact bA _
 have bW1 : Below W.heap.size W W1 := hb1.trans (b1.mono hb1.size)
 have hJW : JV W1 (Al W1) _ j := JV.al hJ1 (fun k hk => hk.2) b1
 have HJW := hide hJW
 have HRV := hide (show W1.heap[V]? = some (.cells #[.int .i64 jk, .int .i64 jn, .string (str jt), .slice ja1 jn1 jc1, .slice ja2 jn2 jc2] 44 (0, 0)) by rw [hW1, hV]; exact heap_alloc_new _ _)
 obtain ⟨p0, p1, p2, p3, p4⟩ := cells5 (uh HRV)
 obtain ⟨m, hm⟩ : ∃ m, m = msgIn j := ⟨_, rfl⟩
 have HIN := hide (messageIn_any j _ W1 hJW (uh HGD).2)
 have HMZ : Hid (MgZ m) := by show _; rw [hm]; exact mz_in j (uh HGD).2
 rw [← hm] at HIN HOK HRM
 unfold mgV at HIN
 have HB1 := hide bW1
 have HV1 : Hid (W.heap.size ≤ V) := by show _ ≤ _; rw [hV]; exact hb1.size
 clear hm hb1 ht1 hJ1 b1 bW1 hJW HPS
 go_upto_region 2 with fail
 rw [← hW1, ← hV]
 clear hW1 hV
 go_wp2_with fail
 refine (uh HIN).mono ?_
 rintro e u2 ⟨a, n, c, rfl, hl, h2⟩
 obtain ⟨M, hM⟩ : ∃ M, M = u2.heap.size := ⟨_, rfl⟩
 obtain ⟨W2, hW2⟩ : ∃ W2, W2 = u2.alloc (.cells #[.int .i64 m.k, .string (str m.c), .int .i64 m.fr, .int .i64 m.co, .int .i64 m.la, .int .i64 m.top, .slice a n c] 24) := ⟨_, rfl⟩
 have b2 : Below u2.heap.size u2 W2 := by rw [hW2]; exact bA _
 have b12 : Below W1.heap.size W1 W2 := (uh h2).trans (b2.mono (uh h2).size)
 have bw2 : Below W.heap.size W W2 := (uh HB1).trans (b12.mono (uh HB1).size)
 have HRM2 := hide (show W2.heap[M]? = some (.cells #[.int .i64 m.k, .string (str m.c), .int .i64 m.fr, .int .i64 m.co, .int .i64 m.la, .int .i64 m.top, .slice a n c] 24 (0, 0)) by rw [hW2, hM]; exact heap_alloc_new _ _)
 have HRV2 := hide ((b12.block V (aI (uh HRV)).1).trans (uh HRV))
 have HRR2 := hide ((bw2.block R (aI (uh HRR)).1).trans (uh HRR))
 have HJ2 : Hid (∀ u, Below W2.heap.size W2 u → JV u (Al u) _ j) := fun u hb => ((uh HJW).al (fun k hk => hk) b12).al (fun k hk => hk) hb
 have HBW2 : Hid (Below w.heap.size w W2) := (uh HBW).trans (bw2.mono (uh HBW).size)
 have HEU : Hid (∀ u, Below W2.heap.size W2 u → Env4 u) := fun u hb => ((uh HEW).below bw2).below hb
 have HLU : Hid (∀ u, Below W2.heap.size W2 u → LRow u a n m.l) := fun u hb => ((uh hl).below b2).below hb
 have HRN : Hid (R ≠ M ∧ R ≠ V ∧ w.heap.size ≤ R) := ⟨by have := uh HRs; have := (uh h2).size; have := (uh HB1).size; omega, by have := uh HRs; have := uh HV1; omega, by have := uh HRs; omega⟩
 have HS0 : Hid (∀ u, Below W2.heap.size W2 u → (u.cell? ⟨M, 0, none⟩ = some (.int .i64 m.k) ∧ u.cell? ⟨M, 1, none⟩ = some (.string (str m.c)) ∧ u.cell? ⟨M, 2, none⟩ = some (.int .i64 m.fr) ∧ u.cell? ⟨M, 3, none⟩ = some (.int .i64 m.co) ∧ u.cell? ⟨M, 4, none⟩ = some (.int .i64 m.la) ∧ u.cell? ⟨M, 5, none⟩ = some (.int .i64 m.top) ∧ u.cell? ⟨M, 6, none⟩ = some (.slice a n c) ∧ u.cell? ⟨V, 0, none⟩ = some (.int .i64 jk) ∧ u.cell? ⟨V, 1, none⟩ = some (.int .i64 jn) ∧ u.cell? ⟨V, 2, none⟩ = some (.string (str jt)) ∧ u.cell? ⟨V, 3, none⟩ = some (.slice ja1 jn1 jc1) ∧ u.cell? ⟨V, 4, none⟩ = some (.slice ja2 jn2 jc2))) := fun u hb => by
  have r_M := (hb.block M (aI (uh HRM2)).1).trans (uh HRM2)
  have r_V := (hb.block V (aI (uh HRV2)).1).trans (uh HRV2)
  exact ⟨(cR6 r_M), (cR6 r_M), (cR6 r_M), (cR6 r_M), (cR6 r_M), (cR6 r_M), (cR6 r_M), (cR6 r_V), (cR6 r_V), (cR6 r_V), (cR6 r_V), (cR6 r_V)⟩
 have HMB : Hid (∀ u, Below W2.heap.size W2 u → Calls Tryz.prog 25 #[.agg #[.int .i64 m.k, .string (str m.c), .int .i64 m.fr, .int .i64 m.co, .int .i64 m.la, .int .i64 m.top, .slice a n c]] u fun e w' => e = .returned (.bool (mayBeM m)) ∧ Hid (Below u.heap.size u w')) := fun u hb => mayBe_any m a n c u (uh HEU u hb).tb (uh HLU u hb)
 have HVL : Hid (∀ u, Below W2.heap.size W2 u → Calls Tryz.prog 27 #[.agg #[.int .i64 m.k, .string (str m.c), .int .i64 m.fr, .int .i64 m.co, .int .i64 m.la, .int .i64 m.top, .slice a n c]] u fun e w' => ∃ v, e = .returned v ∧ Hid (JV w' (Nw u w') v (vlJ m)) ∧ Hid (Below u.heap.size u w')) := fun u hb => value_any2 m a n c u (uh HLU u hb) (by have := (uh HLU u hb).1; have := (uh HMZ).2.2.2.2.2.2.1; omega)
 have HSM : Hid (∀ u v, Below W2.heap.size W2 u → JV u (Al u) v (vlJ m) → Calls Tryz.prog 17 #[v, .agg #[.int .i64 jk, .int .i64 jn, .string (str jt), .slice ja1 jn1 jc1, .slice ja2 jn2 jc2]] u fun e w' => e = .returned (.bool (saM (vlJ m) j)) ∧ Hid (Below u.heap.size u w')) := fun u v hb hv => same_any (vlJ m) j (Al u) v _ u (uh HEU u hb).tb hv (uh HJ2 u hb) (fun k hk => hk) (sz_vl m (uh HMZ)) (uh HGD).2
 generalize mayBeM m = bm at HMB HOK
 generalize saM (vlJ m) j = sm at HSM HOK
 clear hl h2 b2 b12 bw2 p0 p1 p2 p3 p4 HIN HEU HJ2 HEW HV1 HRs HB1 HBW HRR HRV HGD HJW
 go_upto_region 3 with fail
 rw [← hW2, ← hM]
 clear hW2 hM
 obtain ⟨D, hD⟩ : ∃ D, D = W2.drew := ⟨_, rfl⟩
 have HBD : Hid (Below W2.heap.size W2 D) := by show Below _ _ _; rw [hD]; exact Below.drew (Below.refl _ _)
 cases bm with
 | false =>
  have HOE : Hid (OK = false) := by show _ = _; rw [uh HOK]; rfl
  have HRE : Hid (RM = mg0) := by show _ = _; rw [uh HRM, uh HOE]; rfl
  clear HOK HRM HVL HSM
  refine wp_region_held_drew (S := fun w' => w'.cell? ⟨M, 0, none⟩ = some (.int .i64 m.k) ∧ w'.cell? ⟨M, 1, none⟩ = some (.string (str m.c)) ∧ w'.cell? ⟨M, 2, none⟩ = some (.int .i64 m.fr) ∧ w'.cell? ⟨M, 3, none⟩ = some (.int .i64 m.co) ∧ w'.cell? ⟨M, 4, none⟩ = some (.int .i64 m.la) ∧ w'.cell? ⟨M, 5, none⟩ = some (.int .i64 m.top) ∧ w'.cell? ⟨M, 6, none⟩ = some (.slice a n c) ∧ w'.cell? ⟨V, 0, none⟩ = some (.int .i64 jk) ∧ w'.cell? ⟨V, 1, none⟩ = some (.int .i64 jn) ∧ w'.cell? ⟨V, 2, none⟩ = some (.string (str jt)) ∧ w'.cell? ⟨V, 3, none⟩ = some (.slice ja1 jn1 jc1) ∧ w'.cell? ⟨V, 4, none⟩ = some (.slice ja2 jn2 jc2)) (by kernel_rfl) (by rw [← hD]; exact uh HS0 D (uh HBD)) (fun hHeld => ?_)
  rw [← hD] at hHeld ⊢
  clear hD
  refine wpAnyH_take (i := 0) (oi := ?_) (v := ?_) ?_ (by kernel_rfl) ?_ ?_ ?_ ?_ hHeld ?_
  rotate_left 2
  ·(simp only [xq1, xq3]) <;> with_reducible rfl
  ·kernel_rfl
  ·kernel_rfl
  ·exact fun _ _ _ h => h
  ·exact Or.inl ⟨by rfl, by (intro w hSw; (try dsimp only at hSw); obtain ⟨b0, b1, b2, b3, b4, b5, b6, b7, b8, b9, b10, b11⟩ := hSw; go_simp <;> with_reducible rfl)⟩
  simp only [Act.put, xq4, xq5, xq6]
  refine wpAnyH_ready (rs := [1]) (by kernel_rfl) (by simp) ?rdan
  refine AllReadyH.cons (o := ?oan) ?han (fun K hK => ?ban) AllReadyH.nil
  case han => (simp only [xq1, xq2, xq3]) <;> with_reducible rfl
  case ban =>
   go_simp
   refine (uh HMB D (uh HBD)).mono ?_
   rintro e v1 ⟨rfl, h1⟩
   have B1 : Hid (Below W2.heap.size W2 v1) := (uh HBD).trans ((uh h1).mono (uh HBD).size)
   clear h1
   refine hK.out _ _ (uh HS0 v1 (uh B1)) (fun hHeld => ?_)
   clear hK K
   try simp only [Act.put, xq4, xq5, xq6]
   refine wpAnyH_take (i := 2) (oi := ?_) (v := ?_) ?_ (by kernel_rfl) ?_ ?_ ?_ ?_ hHeld ?_
   rotate_left 2
   ·(simp only [xq1, xq2, xq3]) <;> with_reducible rfl
   ·kernel_rfl
   ·kernel_rfl
   ·exact fun _ _ _ h => h
   ·exact Or.inl ⟨by rfl, by (intro w hSw; (try dsimp only at hSw); obtain ⟨b0, b1, b2, b3, b4, b5, b6, b7, b8, b9, b10, b11⟩ := hSw; go_simp <;> with_reducible rfl)⟩
   simp only [Act.put, xq4, xq5, xq6]
   refine wpAnyH_take (i := 3) (oi := ?_) (v := ?_) ?_ (by kernel_rfl) ?_ ?_ ?_ ?_ hHeld ?_
   rotate_left 2
   ·(simp only [xq1, xq2, xq3]) <;> with_reducible rfl
   ·kernel_rfl
   ·kernel_rfl
   ·exact fun _ _ _ h => h
   ·exact Or.inl ⟨by rfl, by (intro w hSw; (try dsimp only at hSw); obtain ⟨b0, b1, b2, b3, b4, b5, b6, b7, b8, b9, b10, b11⟩ := hSw; go_simp <;> with_reducible rfl)⟩
   simp only [Act.put, xq4, xq5, xq6]
   refine wpAnyH_take (i := 4) (oi := ?_) (v := undef) ?_ (by kernel_rfl) ?_ ?_ ?_ ?_ hHeld ?_
   rotate_left 1
   ·(simp only [xq1, xq2, xq3]) <;> with_reducible rfl
   ·kernel_rfl
   ·kernel_rfl
   ·exact fun _ _ _ h => h
   ·exact Or.inr ⟨by rfl, rfl⟩
   simp only [Act.put, xq4, xq5, xq6]
   refine wpAnyH_take (i := 5) (oi := ?_) (v := undef) ?_ (by kernel_rfl) ?_ ?_ ?_ ?_ hHeld ?_
   rotate_left 1
   ·(simp only [xq1, xq2, xq3]) <;> with_reducible rfl
   ·kernel_rfl
   ·kernel_rfl
   ·exact fun _ _ _ h => h
   ·exact Or.inr ⟨by rfl, rfl⟩
   simp only [Act.put, xq4, xq5, xq6]
   refine wpAnyH_take (i := 6) (oi := ?_) (v := undef) ?_ (by kernel_rfl) ?_ ?_ ?_ ?_ hHeld ?_
   rotate_left 1
   ·(simp only [xq1, xq2, xq3]) <;> with_reducible rfl
   ·kernel_rfl
   ·kernel_rfl
   ·exact fun _ _ _ h => h
   ·exact Or.inr ⟨by rfl, rfl⟩
   simp only [Act.put, xq4, xq5, xq6]
   refine wpAnyH_take (i := 7) (oi := ?_) (v := undef) ?_ (by kernel_rfl) ?_ ?_ ?_ ?_ hHeld ?_
   rotate_left 1
   ·(simp only [xq1, xq2, xq3]) <;> with_reducible rfl
   ·kernel_rfl
   ·kernel_rfl
   ·exact fun _ _ _ h => h
   ·exact Or.inr ⟨by rfl, rfl⟩
   simp only [Act.put, xq4, xq5, xq6]
   refine wpAnyH_take (i := 8) (oi := ?_) (v := undef) ?_ (by kernel_rfl) ?_ ?_ ?_ ?_ hHeld ?_
   rotate_left 1
   ·(simp only [xq1, xq2, xq3]) <;> with_reducible rfl
   ·kernel_rfl
   ·kernel_rfl
   ·exact fun _ _ _ h => h
   ·exact Or.inr ⟨by rfl, rfl⟩
   simp only [Act.put, xq4, xq5, xq6]
   refine wpAnyH_take (i := 9) (oi := ?_) (v := ?_) ?_ (by kernel_rfl) ?_ ?_ ?_ ?_ hHeld ?_
   rotate_left 2
   ·(simp only [xq1, xq2, xq3]) <;> with_reducible rfl
   ·kernel_rfl
   ·kernel_rfl
   ·exact fun _ _ _ h => h
   ·exact Or.inl ⟨by rfl, by (intro w hSw; (try dsimp only at hSw); obtain ⟨b0, b1, b2, b3, b4, b5, b6, b7, b8, b9, b10, b11⟩ := hSw; go_simp <;> with_reducible rfl)⟩
   simp only [Act.put, xq4, xq5, xq6]
   refine wpAnyH_done (by kernel_rfl) ?_ _
   have HBU : Hid (Below W2.heap.size W2 v1) := B1
   have rR9 := ((uh HBU).block R (aI (uh HRR2)).1).trans (uh HRR2)
   obtain ⟨y0, y1, y2, y3, y4, y5, y6⟩ := cells7 rR9
   have z0 := frozen_of_row v1 R 0 _ _ rR9
   have z1 := frozen_of_row v1 R 1 _ _ rR9
   have z2 := frozen_of_row v1 R 2 _ _ rR9
   have z3 := frozen_of_row v1 R 3 _ _ rR9
   have z4 := frozen_of_row v1 R 4 _ _ rR9
   have z5 := frozen_of_row v1 R 5 _ _ rR9
   have z6 := frozen_of_row v1 R 6 _ _ rR9
   obtain ⟨w9, h9⟩ : ∃ w9, w9 = ((((((v1.setCell ⟨R, 0, none⟩ (.int .i64 0)).setCell ⟨R, 1, none⟩ (.string ⟨#[]⟩)).setCell ⟨R, 2, none⟩ (.int .i64 0)).setCell ⟨R, 3, none⟩ (.int .i64 0)).setCell ⟨R, 4, none⟩ (.int .i64 0)).setCell ⟨R, 5, none⟩ (.int .i64 0)).setCell ⟨R, 6, none⟩ (.slice none 0 0) := ⟨_, rfl⟩
   have r9 : w9.heap[R]? = some (.cells #[.int .i64 0, .string ⟨#[]⟩, .int .i64 0, .int .i64 0, .int .i64 0, .int .i64 0, .slice none 0 0] 24 (0, 0)) := by
    rw [h9]
    exact hS6 (hS6 (hS6 (hS6 (hS6 (hS6 (hS6 rR9))))))
   have HB9 : Hid (Below w.heap.size w w9) := by
    show Below _ _ _
    rw [h9]
    have q := (uh HRN).2.2
    have bu := (uh HBW2).trans ((uh HBU).mono (uh HBW2).size)
    exact ((((((bu.setCell q _).setCell q _).setCell q _).setCell q _).setCell q _).setCell q _).setCell q _
   obtain ⟨e0, e1, e2, e3, e4, e5, e6⟩ := cells7 r9
   clear rR9 r9
   go_wp2_with fail
   rw [← h9]
   clear h9
   refine ⟨rfl, _, by simp [results, Tryz.results12, go_sem, e0, e1, e2, e3, e4, e5, e6]; rfl, ?_⟩
   exact ⟨none, 0, 0, by rw [uh HRE, uh HOE]; rfl, by rw [uh HRE]; exact ⟨rfl, fun h => absurd rfl h⟩, HB9⟩

 | true =>
  cases sm with
  | false =>
   have HOE : Hid (OK = false) := by show _ = _; rw [uh HOK]; rfl
   have HRE : Hid (RM = mg0) := by show _ = _; rw [uh HRM, uh HOE]; rfl
   clear HOK HRM
   refine wp_region_held_drew (S := fun w' => w'.cell? ⟨M, 0, none⟩ = some (.int .i64 m.k) ∧ w'.cell? ⟨M, 1, none⟩ = some (.string (str m.c)) ∧ w'.cell? ⟨M, 2, none⟩ = some (.int .i64 m.fr) ∧ w'.cell? ⟨M, 3, none⟩ = some (.int .i64 m.co) ∧ w'.cell? ⟨M, 4, none⟩ = some (.int .i64 m.la) ∧ w'.cell? ⟨M, 5, none⟩ = some (.int .i64 m.top) ∧ w'.cell? ⟨M, 6, none⟩ = some (.slice a n c) ∧ w'.cell? ⟨V, 0, none⟩ = some (.int .i64 jk) ∧ w'.cell? ⟨V, 1, none⟩ = some (.int .i64 jn) ∧ w'.cell? ⟨V, 2, none⟩ = some (.string (str jt)) ∧ w'.cell? ⟨V, 3, none⟩ = some (.slice ja1 jn1 jc1) ∧ w'.cell? ⟨V, 4, none⟩ = some (.slice ja2 jn2 jc2)) (by kernel_rfl) (by rw [← hD]; exact uh HS0 D (uh HBD)) (fun hHeld => ?_)
   rw [← hD] at hHeld ⊢
   clear hD
   refine wpAnyH_take (i := 0) (oi := ?_) (v := ?_) ?_ (by kernel_rfl) ?_ ?_ ?_ ?_ hHeld ?_
   rotate_left 2
   ·(simp only [xq1, xq3]) <;> with_reducible rfl
   ·kernel_rfl
   ·kernel_rfl
   ·exact fun _ _ _ h => h
   ·exact Or.inl ⟨by rfl, by (intro w hSw; (try dsimp only at hSw); obtain ⟨b0, b1, b2, b3, b4, b5, b6, b7, b8, b9, b10, b11⟩ := hSw; go_simp <;> with_reducible rfl)⟩
   simp only [Act.put, xq4, xq5, xq6]
   refine wpAnyH_ready (rs := [1]) (by kernel_rfl) (by simp) ?rdaf
   refine AllReadyH.cons (o := ?oaf) ?haf (fun K hK => ?baf) AllReadyH.nil
   case haf => (simp only [xq1, xq2, xq3]) <;> with_reducible rfl
   case baf =>
    go_simp
    refine (uh HMB D (uh HBD)).mono ?_
    rintro e v1 ⟨rfl, h1⟩
    have B1 : Hid (Below W2.heap.size W2 v1) := (uh HBD).trans ((uh h1).mono (uh HBD).size)
    clear h1
    refine hK.out _ _ (uh HS0 v1 (uh B1)) (fun hHeld => ?_)
    clear hK K
    try simp only [Act.put, xq4, xq5, xq6]
    refine wpAnyH_take (i := 2) (oi := ?_) (v := ?_) ?_ (by kernel_rfl) ?_ ?_ ?_ ?_ hHeld ?_
    rotate_left 2
    ·(simp only [xq1, xq2, xq3]) <;> with_reducible rfl
    ·kernel_rfl
    ·kernel_rfl
    ·exact fun _ _ _ h => h
    ·exact Or.inl ⟨by rfl, by (intro w hSw; (try dsimp only at hSw); obtain ⟨b0, b1, b2, b3, b4, b5, b6, b7, b8, b9, b10, b11⟩ := hSw; go_simp <;> with_reducible rfl)⟩
    simp only [Act.put, xq4, xq5, xq6]
    refine wpAnyH_take (i := 3) (oi := ?_) (v := ?_) ?_ (by kernel_rfl) ?_ ?_ ?_ ?_ hHeld ?_
    rotate_left 2
    ·(simp only [xq1, xq2, xq3]) <;> with_reducible rfl
    ·kernel_rfl
    ·kernel_rfl
    ·exact fun _ _ _ h => h
    ·exact Or.inl ⟨by rfl, by (intro w hSw; (try dsimp only at hSw); obtain ⟨b0, b1, b2, b3, b4, b5, b6, b7, b8, b9, b10, b11⟩ := hSw; go_simp <;> with_reducible rfl)⟩
    simp only [Act.put, xq4, xq5, xq6]
    refine wpAnyH_take (i := 4) (oi := ?_) (v := ?_) ?_ (by kernel_rfl) ?_ ?_ ?_ ?_ hHeld ?_
    rotate_left 2
    ·(simp only [xq1, xq2, xq3]) <;> with_reducible rfl
    ·kernel_rfl
    ·kernel_rfl
    ·exact fun _ _ _ h => h
    ·exact Or.inl ⟨by rfl, by (intro w hSw; (try dsimp only at hSw); obtain ⟨b0, b1, b2, b3, b4, b5, b6, b7, b8, b9, b10, b11⟩ := hSw; go_simp <;> with_reducible rfl)⟩
    simp only [Act.put, xq4, xq5, xq6]
    refine wpAnyH_take (i := 6) (oi := ?_) (v := ?_) ?_ (by kernel_rfl) ?_ ?_ ?_ ?_ hHeld ?_
    rotate_left 2
    ·(simp only [xq1, xq2, xq3]) <;> with_reducible rfl
    ·kernel_rfl
    ·kernel_rfl
    ·exact fun _ _ _ h => h
    ·exact Or.inl ⟨by rfl, by (intro w hSw; (try dsimp only at hSw); obtain ⟨b0, b1, b2, b3, b4, b5, b6, b7, b8, b9, b10, b11⟩ := hSw; go_simp <;> with_reducible rfl)⟩
    simp only [Act.put, xq4, xq5, xq6]
    refine wpAnyH_ready (rs := [5]) (by kernel_rfl) (by simp) ?rdbf
    refine AllReadyH.cons (o := ?obf) ?hbf (fun K hK => ?bbf) AllReadyH.nil
    case hbf => (simp only [xq1, xq2, xq3]) <;> with_reducible rfl
    case bbf =>
     go_simp
     refine (uh HVL v1 (uh B1)).mono ?_
     rintro e v2 ⟨vv, rfl, hjv, h2⟩
     obtain ⟨vk, vn, vt, va1, vn1, vc1, va2, vn2, vc2, rfl⟩ := (uh hjv).form
     have B2 : Hid (Below W2.heap.size W2 v2) := (uh B1).trans ((uh h2).mono (uh B1).size)
     have HJV : Hid (JV v2 (Al v2) _ _) := JV.keep (fun k hk => ⟨hk.2, rfl⟩) _ _ (uh hjv)
     clear h2 hjv
     refine hK.out _ _ (uh HS0 v2 (uh B2)) (fun hHeld => ?_)
     clear hK K
     try simp only [Act.put, xq4, xq5, xq6]
     refine wpAnyH_ready (rs := [7]) (by kernel_rfl) (by simp) ?rdcf
     refine AllReadyH.cons (o := ?ocf) ?hcf (fun K hK => ?bcf) AllReadyH.nil
     case hcf => (simp only [xq1, xq2, xq3]) <;> with_reducible rfl
     case bcf =>
      go_simp
      refine (uh HSM v2 _ (uh B2) (uh HJV)).mono ?_
      rintro e v3 ⟨rfl, h3⟩
      have B3 : Hid (Below W2.heap.size W2 v3) := (uh B2).trans ((uh h3).mono (uh B2).size)
      clear h3
      refine hK.out _ _ (uh HS0 v3 (uh B3)) (fun hHeld => ?_)
      clear hK K
      try simp only [Act.put, xq4, xq5, xq6]
      refine wpAnyH_take (i := 8) (oi := ?_) (v := ?_) ?_ (by kernel_rfl) ?_ ?_ ?_ ?_ hHeld ?_
      rotate_left 2
      ·(simp only [xq1, xq2, xq3]) <;> with_reducible rfl
      ·kernel_rfl
      ·kernel_rfl
      ·exact fun _ _ _ h => h
      ·exact Or.inl ⟨by rfl, by (intro w hSw; (try dsimp only at hSw); obtain ⟨b0, b1, b2, b3, b4, b5, b6, b7, b8, b9, b10, b11⟩ := hSw; go_simp <;> with_reducible rfl)⟩
      simp only [Act.put, xq4, xq5, xq6]
      refine wpAnyH_take (i := 9) (oi := ?_) (v := ?_) ?_ (by kernel_rfl) ?_ ?_ ?_ ?_ hHeld ?_
      rotate_left 2
      ·(simp only [xq1, xq2, xq3]) <;> with_reducible rfl
      ·kernel_rfl
      ·kernel_rfl
      ·exact fun _ _ _ h => h
      ·exact Or.inl ⟨by rfl, by (intro w hSw; (try dsimp only at hSw); obtain ⟨b0, b1, b2, b3, b4, b5, b6, b7, b8, b9, b10, b11⟩ := hSw; go_simp <;> with_reducible rfl)⟩
      simp only [Act.put, xq4, xq5, xq6]
      refine wpAnyH_done (by kernel_rfl) ?_ _
      have HBU : Hid (Below W2.heap.size W2 v3) := B3
      have rR9 := ((uh HBU).block R (aI (uh HRR2)).1).trans (uh HRR2)
      obtain ⟨y0, y1, y2, y3, y4, y5, y6⟩ := cells7 rR9
      have z0 := frozen_of_row v3 R 0 _ _ rR9
      have z1 := frozen_of_row v3 R 1 _ _ rR9
      have z2 := frozen_of_row v3 R 2 _ _ rR9
      have z3 := frozen_of_row v3 R 3 _ _ rR9
      have z4 := frozen_of_row v3 R 4 _ _ rR9
      have z5 := frozen_of_row v3 R 5 _ _ rR9
      have z6 := frozen_of_row v3 R 6 _ _ rR9
      obtain ⟨w9, h9⟩ : ∃ w9, w9 = ((((((v3.setCell ⟨R, 0, none⟩ (.int .i64 0)).setCell ⟨R, 1, none⟩ (.string ⟨#[]⟩)).setCell ⟨R, 2, none⟩ (.int .i64 0)).setCell ⟨R, 3, none⟩ (.int .i64 0)).setCell ⟨R, 4, none⟩ (.int .i64 0)).setCell ⟨R, 5, none⟩ (.int .i64 0)).setCell ⟨R, 6, none⟩ (.slice none 0 0) := ⟨_, rfl⟩
      have r9 : w9.heap[R]? = some (.cells #[.int .i64 0, .string ⟨#[]⟩, .int .i64 0, .int .i64 0, .int .i64 0, .int .i64 0, .slice none 0 0] 24 (0, 0)) := by
       rw [h9]
       exact hS6 (hS6 (hS6 (hS6 (hS6 (hS6 (hS6 rR9))))))
      have HB9 : Hid (Below w.heap.size w w9) := by
       show Below _ _ _
       rw [h9]
       have q := (uh HRN).2.2
       have bu := (uh HBW2).trans ((uh HBU).mono (uh HBW2).size)
       exact ((((((bu.setCell q _).setCell q _).setCell q _).setCell q _).setCell q _).setCell q _).setCell q _
      obtain ⟨e0, e1, e2, e3, e4, e5, e6⟩ := cells7 r9
      clear rR9 r9
      go_wp2_with fail
      rw [← h9]
      clear h9
      refine ⟨rfl, _, by simp [results, Tryz.results12, go_sem, e0, e1, e2, e3, e4, e5, e6]; rfl, ?_⟩
      exact ⟨none, 0, 0, by rw [uh HRE, uh HOE]; rfl, by rw [uh HRE]; exact ⟨rfl, fun h => absurd rfl h⟩, HB9⟩

  | true =>
   have HOE : Hid (OK = true) := by show _ = _; rw [uh HOK]; rfl
   have HRE : Hid (RM = m) := by show _ = _; rw [uh HRM, uh HOE]; rfl
   clear HOK HRM
   refine wp_region_held_drew (S := fun w' => w'.cell? ⟨M, 0, none⟩ = some (.int .i64 m.k) ∧ w'.cell? ⟨M, 1, none⟩ = some (.string (str m.c)) ∧ w'.cell? ⟨M, 2, none⟩ = some (.int .i64 m.fr) ∧ w'.cell? ⟨M, 3, none⟩ = some (.int .i64 m.co) ∧ w'.cell? ⟨M, 4, none⟩ = some (.int .i64 m.la) ∧ w'.cell? ⟨M, 5, none⟩ = some (.int .i64 m.top) ∧ w'.cell? ⟨M, 6, none⟩ = some (.slice a n c) ∧ w'.cell? ⟨V, 0, none⟩ = some (.int .i64 jk) ∧ w'.cell? ⟨V, 1, none⟩ = some (.int .i64 jn) ∧ w'.cell? ⟨V, 2, none⟩ = some (.string (str jt)) ∧ w'.cell? ⟨V, 3, none⟩ = some (.slice ja1 jn1 jc1) ∧ w'.cell? ⟨V, 4, none⟩ = some (.slice ja2 jn2 jc2)) (by kernel_rfl) (by rw [← hD]; exact uh HS0 D (uh HBD)) (fun hHeld => ?_)
   rw [← hD] at hHeld ⊢
   clear hD
   refine wpAnyH_take (i := 0) (oi := ?_) (v := ?_) ?_ (by kernel_rfl) ?_ ?_ ?_ ?_ hHeld ?_
   rotate_left 2
   ·(simp only [xq1, xq3]) <;> with_reducible rfl
   ·kernel_rfl
   ·kernel_rfl
   ·exact fun _ _ _ h => h
   ·exact Or.inl ⟨by rfl, by (intro w hSw; (try dsimp only at hSw); obtain ⟨b0, b1, b2, b3, b4, b5, b6, b7, b8, b9, b10, b11⟩ := hSw; go_simp <;> with_reducible rfl)⟩
   simp only [Act.put, xq4, xq5, xq6]
   refine wpAnyH_ready (rs := [1]) (by kernel_rfl) (by simp) ?rdat
   refine AllReadyH.cons (o := ?oat) ?hat (fun K hK => ?bat) AllReadyH.nil
   case hat => (simp only [xq1, xq2, xq3]) <;> with_reducible rfl
   case bat =>
    go_simp
    refine (uh HMB D (uh HBD)).mono ?_
    rintro e v1 ⟨rfl, h1⟩
    have B1 : Hid (Below W2.heap.size W2 v1) := (uh HBD).trans ((uh h1).mono (uh HBD).size)
    clear h1
    refine hK.out _ _ (uh HS0 v1 (uh B1)) (fun hHeld => ?_)
    clear hK K
    try simp only [Act.put, xq4, xq5, xq6]
    refine wpAnyH_take (i := 2) (oi := ?_) (v := ?_) ?_ (by kernel_rfl) ?_ ?_ ?_ ?_ hHeld ?_
    rotate_left 2
    ·(simp only [xq1, xq2, xq3]) <;> with_reducible rfl
    ·kernel_rfl
    ·kernel_rfl
    ·exact fun _ _ _ h => h
    ·exact Or.inl ⟨by rfl, by (intro w hSw; (try dsimp only at hSw); obtain ⟨b0, b1, b2, b3, b4, b5, b6, b7, b8, b9, b10, b11⟩ := hSw; go_simp <;> with_reducible rfl)⟩
    simp only [Act.put, xq4, xq5, xq6]
    refine wpAnyH_take (i := 3) (oi := ?_) (v := ?_) ?_ (by kernel_rfl) ?_ ?_ ?_ ?_ hHeld ?_
    rotate_left 2
    ·(simp only [xq1, xq2, xq3]) <;> with_reducible rfl
    ·kernel_rfl
    ·kernel_rfl
    ·exact fun _ _ _ h => h
    ·exact Or.inl ⟨by rfl, by (intro w hSw; (try dsimp only at hSw); obtain ⟨b0, b1, b2, b3, b4, b5, b6, b7, b8, b9, b10, b11⟩ := hSw; go_simp <;> with_reducible rfl)⟩
    simp only [Act.put, xq4, xq5, xq6]
    refine wpAnyH_take (i := 4) (oi := ?_) (v := ?_) ?_ (by kernel_rfl) ?_ ?_ ?_ ?_ hHeld ?_
    rotate_left 2
    ·(simp only [xq1, xq2, xq3]) <;> with_reducible rfl
    ·kernel_rfl
    ·kernel_rfl
    ·exact fun _ _ _ h => h
    ·exact Or.inl ⟨by rfl, by (intro w hSw; (try dsimp only at hSw); obtain ⟨b0, b1, b2, b3, b4, b5, b6, b7, b8, b9, b10, b11⟩ := hSw; go_simp <;> with_reducible rfl)⟩
    simp only [Act.put, xq4, xq5, xq6]
    refine wpAnyH_take (i := 6) (oi := ?_) (v := ?_) ?_ (by kernel_rfl) ?_ ?_ ?_ ?_ hHeld ?_
    rotate_left 2
    ·(simp only [xq1, xq2, xq3]) <;> with_reducible rfl
    ·kernel_rfl
    ·kernel_rfl
    ·exact fun _ _ _ h => h
    ·exact Or.inl ⟨by rfl, by (intro w hSw; (try dsimp only at hSw); obtain ⟨b0, b1, b2, b3, b4, b5, b6, b7, b8, b9, b10, b11⟩ := hSw; go_simp <;> with_reducible rfl)⟩
    simp only [Act.put, xq4, xq5, xq6]
    refine wpAnyH_ready (rs := [5]) (by kernel_rfl) (by simp) ?rdbt
    refine AllReadyH.cons (o := ?obt) ?hbt (fun K hK => ?bbt) AllReadyH.nil
    case hbt => (simp only [xq1, xq2, xq3]) <;> with_reducible rfl
    case bbt =>
     go_simp
     refine (uh HVL v1 (uh B1)).mono ?_
     rintro e v2 ⟨vv, rfl, hjv, h2⟩
     obtain ⟨vk, vn, vt, va1, vn1, vc1, va2, vn2, vc2, rfl⟩ := (uh hjv).form
     have B2 : Hid (Below W2.heap.size W2 v2) := (uh B1).trans ((uh h2).mono (uh B1).size)
     have HJV : Hid (JV v2 (Al v2) _ _) := JV.keep (fun k hk => ⟨hk.2, rfl⟩) _ _ (uh hjv)
     clear h2 hjv
     refine hK.out _ _ (uh HS0 v2 (uh B2)) (fun hHeld => ?_)
     clear hK K
     try simp only [Act.put, xq4, xq5, xq6]
     refine wpAnyH_ready (rs := [7]) (by kernel_rfl) (by simp) ?rdct
     refine AllReadyH.cons (o := ?oct) ?hct (fun K hK => ?bct) AllReadyH.nil
     case hct => (simp only [xq1, xq2, xq3]) <;> with_reducible rfl
     case bct =>
      go_simp
      refine (uh HSM v2 _ (uh B2) (uh HJV)).mono ?_
      rintro e v3 ⟨rfl, h3⟩
      have B3 : Hid (Below W2.heap.size W2 v3) := (uh B2).trans ((uh h3).mono (uh B2).size)
      clear h3
      refine hK.out _ _ (uh HS0 v3 (uh B3)) (fun hHeld => ?_)
      clear hK K
      try simp only [Act.put, xq4, xq5, xq6]
      refine wpAnyH_take (i := 8) (oi := ?_) (v := ?_) ?_ (by kernel_rfl) ?_ ?_ ?_ ?_ hHeld ?_
      rotate_left 2
      ·(simp only [xq1, xq2, xq3]) <;> with_reducible rfl
      ·kernel_rfl
      ·kernel_rfl
      ·exact fun _ _ _ h => h
      ·exact Or.inl ⟨by rfl, by (intro w hSw; (try dsimp only at hSw); obtain ⟨b0, b1, b2, b3, b4, b5, b6, b7, b8, b9, b10, b11⟩ := hSw; go_simp <;> with_reducible rfl)⟩
      simp only [Act.put, xq4, xq5, xq6]
      refine wpAnyH_take (i := 9) (oi := ?_) (v := ?_) ?_ (by kernel_rfl) ?_ ?_ ?_ ?_ hHeld ?_
      rotate_left 2
      ·(simp only [xq1, xq2, xq3]) <;> with_reducible rfl
      ·kernel_rfl
      ·kernel_rfl
      ·exact fun _ _ _ h => h
      ·exact Or.inl ⟨by rfl, by (intro w hSw; (try dsimp only at hSw); obtain ⟨b0, b1, b2, b3, b4, b5, b6, b7, b8, b9, b10, b11⟩ := hSw; go_simp <;> with_reducible rfl)⟩
      simp only [Act.put, xq4, xq5, xq6]
      refine wpAnyH_done (by kernel_rfl) ?_ _
      have HBU : Hid (Below W2.heap.size W2 v3) := B3
      have rR9 := ((uh HBU).block R (aI (uh HRR2)).1).trans (uh HRR2)
      obtain ⟨y0, y1, y2, y3, y4, y5, y6⟩ := cells7 rR9
      have z0 := frozen_of_row v3 R 0 _ _ rR9
      have z1 := frozen_of_row v3 R 1 _ _ rR9
      have z2 := frozen_of_row v3 R 2 _ _ rR9
      have z3 := frozen_of_row v3 R 3 _ _ rR9
      have z4 := frozen_of_row v3 R 4 _ _ rR9
      have z5 := frozen_of_row v3 R 5 _ _ rR9
      have z6 := frozen_of_row v3 R 6 _ _ rR9
      obtain ⟨w9, h9⟩ : ∃ w9, w9 = ((((((v3.setCell ⟨R, 0, none⟩ (.int .i64 m.k)).setCell ⟨R, 1, none⟩ (.string (str m.c))).setCell ⟨R, 2, none⟩ (.int .i64 m.fr)).setCell ⟨R, 3, none⟩ (.int .i64 m.co)).setCell ⟨R, 4, none⟩ (.int .i64 m.la)).setCell ⟨R, 5, none⟩ (.int .i64 m.top)).setCell ⟨R, 6, none⟩ (.slice a n c) := ⟨_, rfl⟩
      have r9 : w9.heap[R]? = some (.cells #[.int .i64 m.k, .string (str m.c), .int .i64 m.fr, .int .i64 m.co, .int .i64 m.la, .int .i64 m.top, .slice a n c] 24 (0, 0)) := by
       rw [h9]
       exact hS6 (hS6 (hS6 (hS6 (hS6 (hS6 (hS6 rR9))))))
      have HB9 : Hid (Below w.heap.size w w9) := by
       show Below _ _ _
       rw [h9]
       have q := (uh HRN).2.2
       have bu := (uh HBW2).trans ((uh HBU).mono (uh HBW2).size)
       exact ((((((bu.setCell q _).setCell q _).setCell q _).setCell q _).setCell q _).setCell q _).setCell q _
      obtain ⟨m0, m1, m2, m3, m4, m5, m6⟩ := cells7 (((uh HBU).block M (aI (uh HRM2)).1).trans (uh HRM2))
      have HL9 : Hid (LRow w9 a n m.l) := by
       obtain ⟨l1, l2⟩ := uh HLU v3 (uh HBU)
       refine ⟨l1, fun hne => ?_⟩
       obtain ⟨b, off, e, hlt, hc⟩ := l2 hne
       obtain ⟨x, hx⟩ : ∃ x, m.l[0]? = some x := ⟨_, List.getElem?_eq_getElem (List.length_pos_iff.2 hne)⟩
       have hbR : b ≠ R := lrow_ne rR9 (hc 0 x hx)
       exact ⟨b, off, e, by rw [h9]; simp only [siz1]; exact hlt, fun i x hx r v hv => cell_keep (by rw [h9]; rw [Below.heap_setCell _ ⟨R, 6, none⟩ _ b hbR]; rw [Below.heap_setCell _ ⟨R, 5, none⟩ _ b hbR]; rw [Below.heap_setCell _ ⟨R, 4, none⟩ _ b hbR]; rw [Below.heap_setCell _ ⟨R, 3, none⟩ _ b hbR]; rw [Below.heap_setCell _ ⟨R, 2, none⟩ _ b hbR]; rw [Below.heap_setCell _ ⟨R, 1, none⟩ _ b hbR]; rw [Below.heap_setCell _ ⟨R, 0, none⟩ _ b hbR]) (hc i x hx r v hv)⟩
      obtain ⟨e0, e1, e2, e3, e4, e5, e6⟩ := cells7 r9
      clear rR9 r9
      go_wp2_with fail
      rw [← h9]
      clear h9
      refine ⟨rfl, _, by simp [results, Tryz.results12, go_sem, e0, e1, e2, e3, e4, e5, e6]; rfl, ?_⟩
      exact ⟨a, n, c, by rw [uh HRE, uh HOE]; rfl, by rw [uh HRE]; exact HL9, HB9⟩

end Go.Proofs.YtmpjeahibfdehaaGreatDoor
end
section
set_option linter.unusedVariables false
set_option maxRecDepth 1000000
namespace Go.Proofs.YtmpjeahibfdehaaGreatDoor
open Go.RowKit

def awW : List UInt8 := [123, 34, 116, 111, 112, 34, 58, 51, 44, 34, 116, 121, 112, 101, 34, 58, 34, 112, 111, 107, 101, 34, 125]
def awR : List UInt8 := [123, 34, 116, 121, 112, 101, 34, 58, 34, 112, 111, 107, 101, 34, 44, 32, 34, 116, 111, 112, 34, 58, 51, 125]
def awN : List UInt8 := [123, 34, 99, 108, 105, 101, 110, 116, 34, 58, 34, 99, 49, 34, 44, 34, 108, 105, 115, 116, 34, 58, 91, 93, 44, 34, 116, 121, 112, 101, 34, 58, 34, 112, 117, 115, 104, 34, 125]
theorem aw_w : wrM ⟨5, [], 0, 0, 0, 3, []⟩ = (awW, 0) := by kernel_rfl
theorem aw_r : rdOk awR = true := by kernel_rfl
theorem aw_m : rdG awR = ⟨5, [], 0, 0, 0, 3, []⟩ := by kernel_rfl
theorem aw_n : rdOk awN = false := by kernel_rfl
theorem aw_n2 : rdG awN = mg0 := by kernel_rfl
set_option maxHeartbeats 8000000 in
theorem awake13 (w : World) (hE : Env4 w) :
  Calls Tryz.prog 10 #[] w fun e w' => e = .returned (.bool true) ∧ Hid (Below w.heap.size w w') := by
 obtain ⟨T1, hT1⟩ : ∃ T1, T1 = awW := ⟨_, rfl⟩
 have hs1 : ((str T1).toList == [123, 34, 116, 111, 112, 34, 58, 51, 44, 34, 116, 121, 112, 101, 34, 58, 34, 112, 111, 107, 101, 34, 125]) = true := by rw [hT1, toList_str]; rfl
 have HW : Hid (Calls Tryz.prog 11 #[.agg #[.int .i64 5, .string ⟨#[]⟩, .int .i64 0, .int .i64 0, .int .i64 0, .int .i64 3, .slice none 0 0]] w fun e w' => e = .returned (.tuple #[.string (str T1), .int .i64 0]) ∧ Hid (Below w.heap.size w w')) := by
  have h := write_any ⟨5, [], 0, 0, 0, 3, []⟩ none 0 0 w hE ⟨rfl, fun h => absurd rfl h⟩ (fun _ => ⟨by simp, by simp, by simp, by simp, by simp, by simp, by simp, by simp⟩)
  rw [aw_w] at h
  rw [hT1]
  exact h
 have HR : Hid (∀ u, Below w.heap.size w u → Calls Tryz.prog 12 #[.string (str awR)] u fun e w' => (∃ a n c, e = .returned (.tuple #[.agg #[.int .i64 5, .string ⟨#[]⟩, .int .i64 0, .int .i64 0, .int .i64 0, .int .i64 3, .slice a n c], .int .i64 0])) ∧ Hid (Below u.heap.size u w')) := fun u hb => by
  refine (read_any2 awR u (hE.below hb)).mono ?_
  rintro e w' ⟨a, n, c, he, _, h⟩
  rw [aw_m, aw_r] at he
  exact ⟨⟨a, n, c, he⟩, h⟩
 have HN : Hid (∀ u, Below w.heap.size w u → Calls Tryz.prog 12 #[.string (str awN)] u fun e w' => (∃ a n c, e = .returned (.tuple #[.agg #[.int .i64 0, .string ⟨#[]⟩, .int .i64 0, .int .i64 0, .int .i64 0, .int .i64 0, .slice a n c], .int .i64 130])) ∧ Hid (Below u.heap.size u w')) := fun u hb => by
  refine (read_any2 awN u (hE.below hb)).mono ?_
  rintro e w' ⟨a, n, c, he, _, h⟩
  rw [aw_n, aw_n2] at he
  exact ⟨⟨a, n, c, he⟩, h⟩
 clear hE hT1
 go_enter Tryz.func10, Tryz.ntmps10
 go_wp2_with fail
 refine (uh HW).mono ?_
 rintro e u1 ⟨rfl, h1⟩
 have HR1 := hide (uh HR u1 (uh h1))
 clear HW HR
 go_wp2_with fail
 refine (uh HR1).mono ?_
 rintro e u2 ⟨⟨a, n, c, rfl⟩, h2⟩
 obtain ⟨Y, hY⟩ : ∃ Y, Y = u2.heap.size := ⟨_, rfl⟩
 obtain ⟨W2, hW2⟩ : ∃ W2, W2 = u2.alloc (.cells #[.int .i64 5, .string ⟨#[]⟩, .int .i64 0, .int .i64 0, .int .i64 0, .int .i64 3, .slice a n c] 24) := ⟨_, rfl⟩
 have b2 : Below u2.heap.size u2 W2 := by rw [hW2]; exact bA _
 have hbw : Below w.heap.size w W2 := ((uh h1).trans ((uh h2).mono (uh h1).size)).trans (b2.mono (Nat.le_trans (uh h1).size (uh h2).size))
 have HY := hide (show W2.heap[Y]? = some (.cells #[.int .i64 5, .string ⟨#[]⟩, .int .i64 0, .int .i64 0, .int .i64 0, .int .i64 3, .slice a n c] 24 (0, 0)) by rw [hW2, hY]; exact heap_alloc_new _ _)
 have HN1 := hide (uh HN W2 hbw)
 have HBW := hide hbw
 clear HR1 HN h1 h2 b2 hbw
 go_upto_region 3 with fail
 rw [← hW2, ← hY]
 clear hW2 hY
 go_wp2_with fail
 refine (uh HN1).mono ?_
 rintro e u3 ⟨⟨a6, n6, c6, rfl⟩, h3⟩
 obtain ⟨W3, hW3⟩ : ∃ W3, W3 = u3.alloc (.cells #[.int .i64 0, .string ⟨#[]⟩, .int .i64 0, .int .i64 0, .int .i64 0, .int .i64 0, .slice a6 n6 c6] 24) := ⟨_, rfl⟩
 have b3 : Below u3.heap.size u3 W3 := by rw [hW3]; exact bA _
 have b23 : Below W2.heap.size W2 W3 := (uh h3).trans (b3.mono (uh h3).size)
 obtain ⟨y0, y1, y2, y3, y4, y5, y6⟩ := cells7 ((b23.block Y (aI (uh HY)).1).trans (uh HY))
 have HBF : Hid (Below w.heap.size w W3) := (uh HBW).trans (b23.mono (uh HBW).size)
 clear HN1 h3 b3 b23 HY HBW
 go_upto_region 4 with fail
 rw [← hW3]
 clear hW3
 go_wp2_with fail
 go_ret
 exact ⟨rfl, HBF⟩
end Go.Proofs.YtmpjeahibfdehaaGreatDoor
end
section
set_option linter.unusedVariables false
set_option maxRecDepth 1000000
namespace Go.Proofs.YtmpjeahibfdehaaGreatDoor
open Go.RowKit

theorem q6_le (s : List UInt8) : (quo s).length ≤ 6 * s.length + 2 := by
 have h : ∀ l : List UInt8, (qtA l).length ≤ 6 * l.length := fun l => by
  induction l with
  | nil => simp [qtA]
  | cons c r ih =>
   have := qc_len c
   unfold qtA at ih ⊢
   rw [List.flatMap_cons, List.length_append, List.length_cons]
   omega
 have := h s
 unfold quo
 simp
 omega
theorem jo6_sum : ∀ (L : List (List UInt8)) (f : Bool), (joF f L).length ≤ (L.map fun x => x.length + 1).sum
 | [], f => by simp [joF]
 | x :: r, f => by
  have := jo6_sum r false
  unfold joF
  simp only [List.length_append, List.map_cons, List.sum_cons]
  split <;> simp <;> omega
theorem pm6_sum {a b : List Nat} (h : a.Perm b) : a.sum = b.sum := by
 induction h with
 | nil => rfl
 | cons x _ ih => simp only [List.sum_cons]; omega
 | swap x y l => simp only [List.sum_cons]; omega
 | trans _ _ i1 i2 => omega
theorem pr5_le (P : Js → List UInt8) (ns : List (List UInt8)) (is : List Js) : (prF P (.mk 5 0 [] ns is)).length ≤ 2 + ((List.range ns.length).map fun i => (quo (nmA ns i)).length + 2 + (P (is.getD i Js.nul)).length).sum := by
 rw [pr5]
 have h1 := jo6_sum ((ordS ns).map (memP P ns is)) true
 have h2 : (((ordS ns).map (memP P ns is)).map fun x => x.length + 1) = (ordS ns).map fun i => (quo (nmA ns i)).length + 2 + (P (is.getD i Js.nul)).length := by
  rw [List.map_map]
  refine List.map_congr_left (fun i _ => ?_)
  simp only [Function.comp, memP, List.length_append, List.length_cons, List.length_nil]
  omega
 have h3 := pm6_sum ((ordS_ris ns).1.map fun i => (quo (nmA ns i)).length + 2 + (P (is.getD i Js.nul)).length)
 rw [h2, h3] at h1
 simp only [List.length_append, List.length_cons, List.length_nil]
 omega
theorem pr_tx (n : Nat) (t : List UInt8) : (prN n (.mk 3 0 t [] [])).length ≤ 6 * t.length + 2 := by
 cases n <;> exact q6_le t
theorem pr_nm (n : Nat) (z : Int) (h : -9223372036854775808 ≤ z ∧ z ≤ 9223372036854775807) : (prN n (.mk 2 z [] [] [])).length ≤ 21 := by
 cases n <;> exact Lib.itoa_length_le z h.1 h.2
theorem pr4_le (P : Js → List UInt8) (is : List Js) (k : Nat) (h : ∀ j ∈ is, (P j).length ≤ k) : (prF P (.mk 4 0 [] [] is)).length ≤ 2 + is.length * (k + 1) := by
 rw [pr4]
 have h1 := jo6_sum (is.map P) true
 have h2 : ((is.map P).map fun x => x.length + 1).sum ≤ is.length * (k + 1) := by
  clear h1
  induction is with
  | nil => simp
  | cons j r ih =>
   have := h j (by simp)
   have := ih (fun x hx => h x (by simp [hx]))
   simp only [List.map_cons, List.sum_cons, List.length_cons, Nat.add_mul, Nat.one_mul] at this ⊢
   omega
 simp only [List.length_append, List.length_cons, List.length_nil]
 omega
/-- What may be told is short. -/
theorem may_len {x : Lg} (h : mayLg x = true) : x.c.length ≤ 24 ∧ x.m.i.length ≤ 24 ∧ x.m.n.length ≤ 24 ∧ x.m.t.length ≤ 512 := by
 unfold mayLg at h
 simp only [Bool.and_eq_true, decide_eq_true_eq] at h
 obtain ⟨⟨h1, _⟩, h2⟩ := h
 unfold mayMu at h2
 split at h2
 ·omega
 split at h2
 ·omega
 rename_i hi
 split at h2
 ·omega
 rename_i hn
 split at h2
 ·omega
 rename_i ht
 refine ⟨(nm_len h1).1, (nm_len (by simpa using hi)).1, ?_, ?_⟩
 ·have hn' : nmMay x.m = true := by simpa using hn
  unfold nmMay at hn'
  split at hn'
  ·rename_i h; rw [h.2]; simp
  split at hn'
  ·exact (nm_len hn').1
  ·have : x.m.n = [] := by simpa using hn'
   rw [this]; simp
 ·have ht' : txMay x.m = true := by simpa using ht
  unfold txMay at ht'
  split at ht'
  ·unfold isSt at ht'
   simp only [Bool.or_eq_true, decide_eq_true_eq] at ht'
   rcases ht' with e | e <;> rw [e] <;> simp [stO, stC]
  split at ht'
  ·unfold wordB at ht'
   simp only [Bool.and_eq_true, decide_eq_true_eq] at ht'
   exact ht'.1.2
  ·have : x.m.t = [] := by simpa using ht'
   rw [this]; simp
theorem mu_le (n : Nat) (x : Mu) (hk : -9223372036854775808 ≤ x.k ∧ x.k ≤ 9223372036854775807) (h1 : x.i.length ≤ 24) (h2 : x.n.length ≤ 24) (h3 : x.t.length ≤ 512) : (prN (n + 1) (muJ x)).length ≤ 3600 := by
 have h := pr5_le (prN n) [[107, 105, 110, 100], [105, 115, 115, 117, 101], [110, 97, 109, 101], [116, 101, 120, 116]] [.mk 2 x.k [] [] [], .mk 3 0 x.i [] [], .mk 3 0 x.n [] [], .mk 3 0 x.t [] []]
 have e1 := pr_nm n x.k hk
 have e2 := pr_tx n x.i
 have e3 := pr_tx n x.n
 have e4 := pr_tx n x.t
 have q1 := q6_le [107, 105, 110, 100]
 have q2 := q6_le [105, 115, 115, 117, 101]
 have q3 := q6_le [110, 97, 109, 101]
 have q4 := q6_le [116, 101, 120, 116]
 simp only [List.length_cons, List.length_nil, List.range_succ, List.range_zero, List.nil_append, List.cons_append, List.map_cons, List.map_nil, List.sum_cons, List.sum_nil, nmA, List.getD_cons_zero, List.getD_cons_succ] at h q1 q2 q3 q4
 show (prF (prN n) _).length ≤ _
 unfold muJ
 omega
theorem lg_le (n : Nat) (x : Lg) (hz : LgZ x) (h : mayLg x = true) : (prN (n + 2) (lgJ x)).length ≤ 4000 := by
 obtain ⟨h1, h2, h3, h4⟩ := may_len h
 have h := pr5_le (prN (n + 1)) [[99, 108, 105, 101, 110, 116], [105, 100], [109]] [.mk 3 0 x.c [] [], .mk 2 x.id [] [] [], muJ x.m]
 have e1 := pr_tx (n + 1) x.c
 have e2 := pr_nm (n + 1) x.id hz.1
 have e3 := mu_le n x.m hz.2.1 h2 h3 h4
 have q1 := q6_le [99, 108, 105, 101, 110, 116]
 have q2 := q6_le [105, 100]
 have q3 := q6_le [109]
 simp only [List.length_cons, List.length_nil, List.range_succ, List.range_zero, List.nil_append, List.cons_append, List.map_cons, List.map_nil, List.sum_cons, List.sum_nil, nmA, List.getD_cons_zero, List.getD_cons_succ] at h q1 q2 q3
 show (prF (prN (n + 1)) _).length ≤ _
 unfold lgJ
 omega
theorem nu_le (n : Nat) (x : Lg) (hz : LgZ x) (h : mayLg x = true) : (prN (n + 2) (nuJ x)).length ≤ 4000 := by
 obtain ⟨h1, h2, h3, h4⟩ := may_len h
 have h := pr5_le (prN (n + 1)) [[105, 100], [109]] [.mk 2 x.id [] [] [], muJ x.m]
 have e2 := pr_nm (n + 1) x.id hz.1
 have e3 := mu_le n x.m hz.2.1 h2 h3 h4
 have q2 := q6_le [105, 100]
 have q3 := q6_le [109]
 simp only [List.length_cons, List.length_nil, List.range_succ, List.range_zero, List.nil_append, List.cons_append, List.map_cons, List.map_nil, List.sum_cons, List.sum_nil, nmA, List.getD_cons_zero, List.getD_cons_succ] at h q2 q3
 show (prF (prN (n + 1)) _).length ≤ _
 unfold nuJ
 omega
end Go.Proofs.YtmpjeahibfdehaaGreatDoor
end
section
set_option linter.unusedVariables false
set_option maxRecDepth 1000000
namespace Go.Proofs.YtmpjeahibfdehaaGreatDoor
open Go.RowKit

theorem push_len {m : Mg} (h : isPushB m = true) : m.l.length ≤ 8 ∧ m.c.length ≤ 24 ∧ ∀ x ∈ m.l, mayLg x = true := by
 unfold isPushB at h
 simp only [Bool.and_eq_true, decide_eq_true_eq] at h
 obtain ⟨⟨h1, h8⟩, ha⟩ := h
 have hall : ∀ i x, m.l[i]? = some x → pushX m i x = true := fun i x hx => by
  unfold pAll at ha
  have := (List.all_eq_true.1 ha) i (List.mem_range.2 (List.getElem?_eq_some_iff.1 hx).1)
  rw [hx] at this
  simpa using this
 have hx : ∀ i x, m.l[i]? = some x → mayLg x = true ∧ x.c = m.c := fun i x hx => by
  have := hall i x hx
  unfold pushX at this
  simp only [Bool.and_eq_true, decide_eq_true_eq] at this
  exact this.1
 refine ⟨h8, ?_, fun x hm => ?_⟩
 ·obtain ⟨x, h0⟩ : ∃ x, m.l[0]? = some x := ⟨_, List.getElem?_eq_getElem (by omega)⟩
  rw [← (hx 0 x h0).2]
  exact (may_len (hx 0 x h0).1).1
 ·obtain ⟨i, hi⟩ := List.mem_iff_getElem?.1 hm
  exact (hx i x hi).1
theorem patch_len {m : Mg} (h : isPatchB m = true) : m.l.length ≤ 8 ∧ ∀ x ∈ m.l, mayLg x = true := by
 unfold isPatchB at h
 simp only [Bool.and_eq_true, decide_eq_true_eq] at h
 exact ⟨h.1.1.1.1.1.1.1, h.1.1.1.1.1.1.2⟩
theorem tyM_le (k : Int) : (tyM k).length ≤ 6 := by
 unfold tyM
 repeat' split
 all_goals simp
/-- A message that may be has a short text. -/
theorem vl_le (m : Mg) (hz : MgZ m) (h : mayBeM m = true) : (prN 16 (vlJ m)).length ≤ 32768 := by
 have et := pr_tx 15 (tyM m.k)
 have ec := pr_tx 15 m.c
 have e1 := pr_nm 15 m.fr hz.2.1
 have e2 := pr_nm 15 m.co hz.2.2.1
 have e3 := pr_nm 15 m.la hz.2.2.2.1
 have e4 := pr_nm 15 m.top hz.2.2.2.2.1
 have tl := tyM_le m.k
 have q1 := q6_le [116, 121, 112, 101]
 have q2 := q6_le [99, 108, 105, 101, 110, 116]
 have q3 := q6_le [108, 105, 115, 116]
 have q4 := q6_le [108, 97, 115, 116]
 have q5 := q6_le [116, 111, 112]
 have q6 := q6_le [99, 111, 111, 107, 105, 101]
 have q7 := q6_le [102, 114, 111, 109]
 simp only [List.length_cons, List.length_nil] at q1 q2 q3 q4 q5 q6 q7
 unfold mayBeM at h
 unfold vlJ
 by_cases h1 : m.k = 1
 ·rw [if_pos h1] at h ⊢
  simp only [Bool.and_eq_true] at h
  obtain ⟨l1, l2, l3⟩ := push_len h.2
  have el := pr4_le (prN 14) (m.l.map nuJ) 4000 (fun j hj => by obtain ⟨x, hx, rfl⟩ := List.mem_map.1 hj; exact nu_le 12 x (hz.2.2.2.2.2.2.2 x hx) (l3 x hx))
  rw [List.length_map] at el
  have hh := pr5_le (prN 15) [[116, 121, 112, 101], [99, 108, 105, 101, 110, 116], [108, 105, 115, 116]] [.mk 3 0 (tyM m.k) [] [], .mk 3 0 m.c [] [], .mk 4 0 [] [] (m.l.map nuJ)]
  simp only [List.length_cons, List.length_nil, List.range_succ, List.range_zero, List.nil_append, List.cons_append, List.map_cons, List.map_nil, List.sum_cons, List.sum_nil, nmA, List.getD_cons_zero, List.getD_cons_succ] at hh
  have el2 : (prN 15 (.mk 4 0 [] [] (m.l.map nuJ))).length ≤ 2 + m.l.length * (4000 + 1) := el
  show (prF (prN 15) _).length ≤ _
  omega
 rw [if_neg h1] at h ⊢
 by_cases h2 : m.k = 2
 ·rw [if_pos h2]
  have hh := pr5_le (prN 15) [[116, 121, 112, 101], [108, 97, 115, 116], [116, 111, 112]] [.mk 3 0 (tyM m.k) [] [], .mk 2 m.la [] [] [], .mk 2 m.top [] [] []]
  simp only [List.length_cons, List.length_nil, List.range_succ, List.range_zero, List.nil_append, List.cons_append, List.map_cons, List.map_nil, List.sum_cons, List.sum_nil, nmA, List.getD_cons_zero, List.getD_cons_succ] at hh
  show (prF (prN 15) _).length ≤ _
  omega
 rw [if_neg h2] at h ⊢
 by_cases h3 : m.k = 3
 ·rw [if_pos h3] at h ⊢
  simp only [Bool.and_eq_true] at h
  have cl := (nm_len h.1.2).1
  have hh := pr5_le (prN 15) [[116, 121, 112, 101], [99, 108, 105, 101, 110, 116], [99, 111, 111, 107, 105, 101]] [.mk 3 0 (tyM m.k) [] [], .mk 3 0 m.c [] [], .mk 2 m.co [] [] []]
  simp only [List.length_cons, List.length_nil, List.range_succ, List.range_zero, List.nil_append, List.cons_append, List.map_cons, List.map_nil, List.sum_cons, List.sum_nil, nmA, List.getD_cons_zero, List.getD_cons_succ] at hh
  show (prF (prN 15) _).length ≤ _
  omega
 rw [if_neg h3] at h ⊢
 by_cases h4 : m.k = 4
 ·rw [if_pos h4] at h ⊢
  simp only [Bool.and_eq_true] at h
  obtain ⟨l1, l3⟩ := patch_len h.2
  have el := pr4_le (prN 14) (m.l.map lgJ) 4000 (fun j hj => by obtain ⟨x, hx, rfl⟩ := List.mem_map.1 hj; exact lg_le 12 x (hz.2.2.2.2.2.2.2 x hx) (l3 x hx))
  rw [List.length_map] at el
  have hh := pr5_le (prN 15) [[116, 121, 112, 101], [102, 114, 111, 109], [99, 111, 111, 107, 105, 101], [108, 97, 115, 116], [116, 111, 112], [108, 105, 115, 116]] [.mk 3 0 (tyM m.k) [] [], .mk 2 m.fr [] [] [], .mk 2 m.co [] [] [], .mk 2 m.la [] [] [], .mk 2 m.top [] [] [], .mk 4 0 [] [] (m.l.map lgJ)]
  simp only [List.length_cons, List.length_nil, List.range_succ, List.range_zero, List.nil_append, List.cons_append, List.map_cons, List.map_nil, List.sum_cons, List.sum_nil, nmA, List.getD_cons_zero, List.getD_cons_succ] at hh
  have el2 : (prN 15 (.mk 4 0 [] [] (m.l.map lgJ))).length ≤ 2 + m.l.length * (4000 + 1) := el
  show (prF (prN 15) _).length ≤ _
  omega
 rw [if_neg h4]
 have hh := pr5_le (prN 15) [[116, 121, 112, 101], [116, 111, 112]] [.mk 3 0 (tyM m.k) [] [], .mk 2 m.top [] [] []]
 simp only [List.length_cons, List.length_nil, List.range_succ, List.range_zero, List.nil_append, List.cons_append, List.map_cons, List.map_nil, List.sum_cons, List.sum_nil, nmA, List.getD_cons_zero, List.getD_cons_succ] at hh
 show (prF (prN 15) _).length ≤ _
 omega
end Go.Proofs.YtmpjeahibfdehaaGreatDoor
end
section
set_option linter.unusedVariables false
set_option maxRecDepth 1000000
namespace Go.Proofs.YtmpjeahibfdehaaGreatDoor
open Go.RowKit

theorem chr_low1 {c : UInt8} (h : c.toNat < 128) : chr [c] = none := by
 have e := chr_en c.toNat ⟨by omega, by omega⟩
 unfold enB at e
 rw [if_pos h] at e
 simpa using e
theorem chr_lows : ∀ (l : List UInt8), (∀ c ∈ l, c.toNat < 128) → chr l = none
 | [], _ => chr_nil
 | c :: r, h => chr_app (a := [c]) (chr_low1 (h c (by simp))) (chr_lows r fun x hx => h x (by simp [hx]))
theorem nmB_low {c : UInt8} (h : nmB c = true) : c.toNat < 128 := by
 unfold nmB at h
 simp only [Bool.or_eq_true, Bool.and_eq_true, decide_eq_true_eq, beq_iff_eq, UInt8.le_iff_toNat_le] at h
 rcases h with ((((h | h) | h) | h) | h) | h
 ·have := h.2; simp at this; omega
 ·have := h.2; simp at this; omega
 ·have := h.2; simp at this; omega
 ·rw [h]; decide
 ·rw [h]; decide
 ·rw [h]; decide
theorem nm_chr {s : List UInt8} (h : nmOk s = true) : chr s = none := by
 unfold nmOk at h
 simp only [Bool.and_eq_true] at h
 exact chr_lows s fun c hc => nmB_low ((List.all_eq_true.1 h.2) c hc)
/-- What may be told has texts without a place where no character begins. -/
theorem may_chr {x : Lg} (h : mayLg x = true) : chr x.c = none ∧ chr x.m.i = none ∧ chr x.m.n = none ∧ chr x.m.t = none := by
 unfold mayLg at h
 simp only [Bool.and_eq_true, decide_eq_true_eq] at h
 obtain ⟨⟨h1, _⟩, h2⟩ := h
 unfold mayMu at h2
 split at h2
 ·omega
 split at h2
 ·omega
 rename_i hi
 split at h2
 ·omega
 rename_i hn
 split at h2
 ·omega
 rename_i ht
 refine ⟨nm_chr h1, nm_chr (by simpa using hi), ?_, ?_⟩
 ·have hn' : nmMay x.m = true := by simpa using hn
  unfold nmMay at hn'
  split at hn'
  ·rename_i h; rw [h.2]; exact chr_nil
  split at hn'
  ·exact nm_chr hn'
  ·have : x.m.n = [] := by simpa using hn'
   rw [this]; exact chr_nil
 ·have ht' : txMay x.m = true := by simpa using ht
  unfold txMay at ht'
  split at ht'
  ·unfold isSt at ht'
   simp only [Bool.or_eq_true, decide_eq_true_eq] at ht'
   rcases ht' with e | e <;> rw [e] <;> exact chr_lows _ (by decide)
  split at ht'
  ·unfold wordB at ht'
   simp only [Bool.and_eq_true, decide_eq_true_eq] at ht'
   exact ht'.2
  ·have : x.m.t = [] := by simpa using ht'
   rw [this]; exact chr_nil
theorem ck_tx (n : Nat) {t : List UInt8} (h : chr t = none) : ck n (.mk 3 0 t [] []) = 0 := ck_flat n 3 0 t (by omega) (by unfold wfB; simp [h])
theorem ck_nm (n : Nat) (z : Int) : ck n (.mk 2 z [] [] []) = 0 := ck_flat n 2 z [] (by omega) (by unfold wfB; simp)
theorem ck_obj (n : Nat) (ns : List (List UInt8)) (is : List Js) (h1 : ns.length = is.length) (h2 : ∀ s ∈ ns, ∀ c ∈ s, c.toNat < 128) (h3 : ns.Nodup) (h4 : ∀ j ∈ is, ck n j = 0) : ck (n + 1) (.mk 5 0 [] ns is) = 0 := by
 show ckF (some (ck n)) (.mk 5 0 [] ns is) = 0
 have hw : wfB (.mk 5 0 [] ns is) = true := by
  unfold wfB
  simp only [h1, show ¬ ((5 : Int) = 0) by decide, show ¬ ((5 : Int) = 1) by decide, show ¬ ((5 : Int) = 2) by decide, show ¬ ((5 : Int) = 3) by decide, show ¬ ((5 : Int) = 4) by decide, if_true, if_false]
  simp
  exact fun s hs => chr_lows s (h2 s hs)
 rw [ckF_eq, if_neg (by simp), if_neg (by rw [hw]; simp), if_neg (by simpa using h3)]
 exact fsE_zero.2 h4
theorem ck_row (n : Nat) (is : List Js) (h : ∀ j ∈ is, ck n j = 0) : ck (n + 1) (.mk 4 0 [] [] is) = 0 := by
 show ckF (some (ck n)) (.mk 4 0 [] [] is) = 0
 rw [ckF_eq, if_neg (by simp), if_neg (by unfold wfB; simp), if_neg (by simp)]
 exact fsE_zero.2 h
theorem ck_mu (n : Nat) (x : Mu) (h1 : chr x.i = none) (h2 : chr x.n = none) (h3 : chr x.t = none) : ck (n + 1) (muJ x) = 0 :=
 ck_obj n _ _ rfl (by decide) (by decide) (by
  intro j hj
  simp only [List.mem_cons, List.not_mem_nil, or_false] at hj
  rcases hj with rfl | rfl | rfl | rfl
  ·exact ck_nm n _
  ·exact ck_tx n h1
  ·exact ck_tx n h2
  ·exact ck_tx n h3)
theorem ck_lg (n : Nat) (x : Lg) (h : mayLg x = true) : ck (n + 2) (lgJ x) = 0 := by
 obtain ⟨h0, h1, h2, h3⟩ := may_chr h
 exact ck_obj (n + 1) _ _ rfl (by decide) (by decide) (by
  intro j hj
  simp only [List.mem_cons, List.not_mem_nil, or_false] at hj
  rcases hj with rfl | rfl | rfl
  ·exact ck_tx _ h0
  ·exact ck_nm _ _
  ·exact ck_mu n _ h1 h2 h3)
theorem ck_nu (n : Nat) (x : Lg) (h : mayLg x = true) : ck (n + 2) (nuJ x) = 0 := by
 obtain ⟨h0, h1, h2, h3⟩ := may_chr h
 exact ck_obj (n + 1) _ _ rfl (by decide) (by decide) (by
  intro j hj
  simp only [List.mem_cons, List.not_mem_nil, or_false] at hj
  rcases hj with rfl | rfl
  ·exact ck_nm _ _
  ·exact ck_mu n _ h1 h2 h3)
theorem ty_chr (k : Int) : chr (tyM k) = none := by
 unfold tyM
 repeat' split
 all_goals exact chr_lows _ (by decide)
theorem push_c {m : Mg} (h : isPushB m = true) : nmOk m.c = true ∧ ∀ x ∈ m.l, x.c = m.c := by
 unfold isPushB at h
 simp only [Bool.and_eq_true, decide_eq_true_eq] at h
 obtain ⟨⟨h1, h8⟩, ha⟩ := h
 have hx : ∀ i x, m.l[i]? = some x → mayLg x = true ∧ x.c = m.c := fun i x hx => by
  have hall : pushX m i x = true := by
   unfold pAll at ha
   have := (List.all_eq_true.1 ha) i (List.mem_range.2 (List.getElem?_eq_some_iff.1 hx).1)
   rw [hx] at this
   simpa using this
  unfold pushX at hall
  simp only [Bool.and_eq_true, decide_eq_true_eq] at hall
  exact hall.1
 refine ⟨?_, fun x hm => ?_⟩
 ·obtain ⟨x, h0⟩ : ∃ x, m.l[0]? = some x := ⟨_, List.getElem?_eq_getElem (by omega)⟩
  have h := hx 0 x h0
  rw [← h.2]
  have h2 := h.1
  unfold mayLg at h2
  simp only [Bool.and_eq_true] at h2
  exact h2.1.1
 ·obtain ⟨i, hi⟩ := List.mem_iff_getElem?.1 hm
  exact (hx i x hi).2
/-- A message that may be is a value that may be, and is read as it was. -/
theorem vl_back (m : Mg) (h : mayBeM m = true) : ck 16 (vlJ m) = 0 ∧ msgIn (srN 16 (vlJ m)) = m := by
 unfold mayBeM at h
 obtain ⟨k, c, fr, co, la, top, l⟩ := m
 unfold vlJ
 simp only at h ⊢
 by_cases h1 : k = 1
 ·subst h1
  rw [if_pos rfl] at h ⊢
  simp only [Bool.and_eq_true, decide_eq_true_eq] at h
  obtain ⟨⟨⟨⟨rfl, rfl⟩, rfl⟩, rfl⟩, hp⟩ := h
  obtain ⟨l1, l2, l3⟩ := push_len hp
  obtain ⟨c1, c2⟩ := push_c hp
  refine ⟨ck_obj 15 _ _ rfl (by decide) (by decide) (by
   intro j hj
   simp only [List.mem_cons, List.not_mem_nil, or_false] at hj
   rcases hj with rfl | rfl | rfl
   ·exact ck_tx _ (ty_chr _)
   ·exact ck_tx _ (nm_chr c1)
   ·exact ck_row 14 _ (fun j hj => by obtain ⟨x, hx, rfl⟩ := List.mem_map.1 hj; exact ck_nu 12 x (l3 x hx))), ?_⟩
  have e : (((l.map nuJ).map (srN 14)).map fun i => (⟨c, (lgIn i).id, (lgIn i).m⟩ : Lg)) = l := by
   rw [List.map_map, List.map_map]
   refine (List.map_congr_left (fun x hx => ?_)).trans (List.map_id l)
   have hc : x.c = c := c2 x hx
   show (⟨c, (lgIn (srN 14 (nuJ x))).id, (lgIn (srN 14 (nuJ x))).m⟩ : Lg) = x
   rw [← hc]
   kernel_rfl
  refine Eq.trans (b := ⟨1, c, 0, 0, 0, 0, ((l.map nuJ).map (srN 14)).map fun i => (⟨c, (lgIn i).id, (lgIn i).m⟩ : Lg)⟩) ?_ (by rw [e])
  kernel_rfl
 rw [if_neg h1] at h ⊢
 by_cases h2 : k = 2
 ·subst h2
  rw [if_pos rfl] at h ⊢
  simp only [Bool.and_eq_true, decide_eq_true_eq, List.length_eq_zero_iff] at h
  obtain ⟨⟨⟨⟨⟨rfl, rfl⟩, rfl⟩, rfl⟩, _⟩, _⟩ := h
  refine ⟨ck_obj 15 _ _ rfl (by decide) (by decide) (by
   intro j hj
   simp only [List.mem_cons, List.not_mem_nil, or_false] at hj
   rcases hj with rfl | rfl | rfl
   ·exact ck_tx _ (ty_chr _)
   ·exact ck_nm _ _
   ·exact ck_nm _ _), by kernel_rfl⟩
 rw [if_neg h2] at h ⊢
 by_cases h3 : k = 3
 ·subst h3
  rw [if_pos rfl] at h ⊢
  simp only [Bool.and_eq_true, decide_eq_true_eq, List.length_eq_zero_iff] at h
  obtain ⟨⟨⟨⟨⟨rfl, rfl⟩, rfl⟩, rfl⟩, hc⟩, _⟩ := h
  refine ⟨ck_obj 15 _ _ rfl (by decide) (by decide) (by
   intro j hj
   simp only [List.mem_cons, List.not_mem_nil, or_false] at hj
   rcases hj with rfl | rfl | rfl
   ·exact ck_tx _ (ty_chr _)
   ·exact ck_tx _ (nm_chr hc)
   ·exact ck_nm _ _), by kernel_rfl⟩
 rw [if_neg h3] at h ⊢
 by_cases h4 : k = 4
 ·subst h4
  rw [if_pos rfl] at h ⊢
  simp only [Bool.and_eq_true, decide_eq_true_eq] at h
  obtain ⟨rfl, hp⟩ := h
  obtain ⟨l1, l3⟩ := patch_len hp
  refine ⟨ck_obj 15 _ _ rfl (by decide) (by decide) (by
   intro j hj
   simp only [List.mem_cons, List.not_mem_nil, or_false] at hj
   rcases hj with rfl | rfl | rfl | rfl | rfl | rfl
   ·exact ck_tx _ (ty_chr _)
   ·exact ck_nm _ _
   ·exact ck_nm _ _
   ·exact ck_nm _ _
   ·exact ck_nm _ _
   ·exact ck_row 14 _ (fun j hj => by obtain ⟨x, hx, rfl⟩ := List.mem_map.1 hj; exact ck_lg 12 x (l3 x hx))), ?_⟩
  have e : (((l.map lgJ).map (srN 14)).map fun i => lgIn i) = l := by
   rw [List.map_map, List.map_map]
   refine (List.map_congr_left (fun x hx => ?_)).trans (List.map_id l)
   show lgIn (srN 14 (lgJ x)) = x
   kernel_rfl
  refine Eq.trans (b := ⟨4, [], fr, co, la, top, ((l.map lgJ).map (srN 14)).map fun i => lgIn i⟩) ?_ (by rw [e])
  kernel_rfl
 rw [if_neg h4] at h ⊢
 split at h
 rotate_left 1
 ·cases h
 rename_i h5
 subst h5
 simp only [Bool.and_eq_true, decide_eq_true_eq, List.length_eq_zero_iff] at h
 obtain ⟨⟨⟨⟨⟨rfl, rfl⟩, rfl⟩, rfl⟩, rfl⟩, _⟩ := h
 exact ⟨ck_obj 15 _ _ rfl (by decide) (by decide) (by
  intro j hj
  simp only [List.mem_cons, List.not_mem_nil, or_false] at hj
  rcases hj with rfl | rfl
  ·exact ck_tx _ (ty_chr _)
  ·exact ck_nm _ _), by kernel_rfl⟩
/-- Numbers are such as memory has. -/
def LiZ (x : Lg) : Prop := (-9223372036854775808 ≤ x.id ∧ x.id ≤ 9223372036854775807) ∧ (-9223372036854775808 ≤ x.m.k ∧ x.m.k ≤ 9223372036854775807)
def MiZ (m : Mg) : Prop := (-9223372036854775808 ≤ m.k ∧ m.k ≤ 9223372036854775807) ∧ (-9223372036854775808 ≤ m.fr ∧ m.fr ≤ 9223372036854775807) ∧ (-9223372036854775808 ≤ m.co ∧ m.co ≤ 9223372036854775807) ∧ (-9223372036854775808 ≤ m.la ∧ m.la ≤ 9223372036854775807) ∧ (-9223372036854775808 ≤ m.top ∧ m.top ≤ 9223372036854775807) ∧ ∀ x ∈ m.l, LiZ x
theorem lz_of {x : Lg} (hi : LiZ x) (h : mayLg x = true) : LgZ x := by
 obtain ⟨h1, h2, h3, h4⟩ := may_len h
 exact ⟨hi.1, hi.2, by omega, by omega, by omega, by omega⟩
theorem mz_of {m : Mg} (hi : MiZ m) (h : mayBeM m = true) : MgZ m := by
 have key : m.c.length ≤ 24 ∧ m.l.length ≤ 8 ∧ ∀ x ∈ m.l, mayLg x = true := by
  unfold mayBeM at h
  have nil : m.l.length = 0 → ∀ x ∈ m.l, mayLg x = true := fun e x hx => by rw [List.length_eq_zero_iff.1 e] at hx; cases hx
  split at h
  ·simp only [Bool.and_eq_true] at h
   obtain ⟨h1, h2, h3⟩ := push_len h.2
   exact ⟨h2, h1, h3⟩
  split at h
  ·simp only [Bool.and_eq_true, decide_eq_true_eq] at h
   exact ⟨by rw [h.1.1.1.1.1]; simp, by omega, nil h.1.1.2⟩
  split at h
  ·simp only [Bool.and_eq_true, decide_eq_true_eq] at h
   exact ⟨(nm_len h.1.2).1, by omega, nil h.1.1.2⟩
  split at h
  ·simp only [Bool.and_eq_true, decide_eq_true_eq] at h
   obtain ⟨h1, h3⟩ := patch_len h.2
   exact ⟨by rw [h.1]; simp, h1, h3⟩
  split at h
  ·simp only [Bool.and_eq_true, decide_eq_true_eq] at h
   exact ⟨by rw [h.1.1.1.1.1]; simp, by omega, nil h.1.2⟩
  ·cases h
 exact ⟨hi.1, hi.2.1, hi.2.2.1, hi.2.2.2.1, hi.2.2.2.2.1, by omega, by omega, fun x hx => lz_of (hi.2.2.2.2.2 x hx) (key.2.2 x hx)⟩
end Go.Proofs.YtmpjeahibfdehaaGreatDoor
end
section
set_option linter.unusedVariables false
set_option maxRecDepth 1000000
namespace Go.Proofs.YtmpjeahibfdehaaGreatDoor
open Go.RowKit

def lcs (l : List Lg) : List Value := l.flatMap lgC
theorem lgC_len (x : Lg) : (lgC x).length = 6 := rfl
theorem lcs_len : ∀ l : List Lg, (lcs l).length = l.length * 6
 | [] => rfl
 | x :: r => by
  have := lcs_len r
  unfold lcs at this ⊢
  rw [List.flatMap_cons, List.length_append, this, lgC_len, List.length_cons]
  omega
theorem lcs_at : ∀ {l : List Lg} {i : Nat} {x : Lg} {r : Nat} {v : Value}, l[i]? = some x → (lgC x)[r]? = some v → (lcs l)[i * 6 + r]? = some v
 | [], i, x, r, v, h, hv => by simp at h
 | y :: l, 0, x, r, v, h, hv => by
  obtain rfl : y = x := by simpa using h
  unfold lcs
  rw [List.flatMap_cons, List.getElem?_append_left (by have := (List.getElem?_eq_some_iff.1 hv).1; omega)]
  simpa using hv
 | y :: l, i + 1, x, r, v, h, hv => by
  have h2 := lcs_at (l := l) (i := i) (by simpa using h) hv
  unfold lcs at h2 ⊢
  rw [List.flatMap_cons, List.getElem?_append_right (by rw [lgC_len]; omega), lgC_len, show (i + 1) * 6 + r - 6 = i * 6 + r by omega]
  exact h2
theorem lcs_of : ∀ {l : List Lg} {j : Nat} {u : Value}, (lcs l)[j]? = some u → ∃ i r x, j = i * 6 + r ∧ l[i]? = some x ∧ (lgC x)[r]? = some u
 | [], j, u, h => by simp [lcs] at h
 | y :: l, j, u, h => by
  unfold lcs at h
  rw [List.flatMap_cons] at h
  by_cases hj : j < 6
  ·rw [List.getElem?_append_left (by rw [lgC_len]; exact hj)] at h
   exact ⟨0, j, y, by omega, rfl, h⟩
  ·rw [List.getElem?_append_right (by rw [lgC_len]; omega), lgC_len] at h
   obtain ⟨i, r, x, h1, h2, h3⟩ := lcs_of (l := l) h
   exact ⟨i + 1, r, x, by omega, by simpa using h2, h3⟩
theorem lgC_one {x : Lg} {r : Nat} {v : Value} (h : (lgC x)[r]? = some v) : v.oneCell' = true := by
 have := List.mem_of_getElem? h
 simp [lgC] at this
 rcases this with rfl | rfl | rfl | rfl | rfl | rfl <;> rfl
theorem Tryz.infoLg : (Tryz.prog.info? 28).map (fun i => (i.zero, i.size, i.bytes)) = some (some (.agg #[.string ByteArray.empty, .int .i64 0, .int .i64 0, .string ByteArray.empty, .string ByteArray.empty, .string ByteArray.empty]), 6, 80) := by kernel_rfl
set_option maxHeartbeats 8000000 in
theorem lclone_any (a : Option Addr) (cp : Nat) (l : List Lg) (w : World) (hr : LRow w a l.length l) (hl : l.length ≤ 1000000) :
  Calls Tryz.prog 21 #[.slice a l.length cp] w fun e w' => ∃ a' c', e = .returned (.slice a' l.length c') ∧ Hid (LRow w' a' l.length l) ∧ Hid (Below w.heap.size w w') := by
 have hq := fun (wx : World) (a : Option Addr) (n c : Nat) => Lib.run_eql_slice_nil (P := Tryz.prog) wx 22 28 a n c 0 0 Tryz.underlying22
 cases a with
 | none =>
  have hl0 : l = [] := by
   apply Classical.byContradiction
   intro hne
   obtain ⟨b, off, hh, _⟩ := hr.2 hne
   cases hh
  subst hl0
  clear hr
  go_enter Tryz.func21, Tryz.ntmps21
  go_wp2
  go_ret
  exact ⟨none, 0, rfl, ⟨rfl, fun h => absurd rfl h⟩, Below.refl _ _⟩
 | some ad =>
  have HSR : Hid (∀ o j u, (lcs l)[j]? = some u → (w.alloc o).cell? (ad.add j) = some u) := fun o j u hu => by
   obtain ⟨i, r, x, rfl, hx, hv⟩ := lcs_of hu
   obtain ⟨b, off, hh, hb, hc⟩ := hr.2 (fun e => by rw [e] at hx; simp at hx)
   obtain rfl : ad = ⟨b, off, none⟩ := by simpa using hh
   have h1 := hc i x hx r u hv
   rw [addr_add]
   exact Lib.cell?_alloc_some o (by rw [show off + (i * 6 + r) = off + i * 6 + r by omega]; exact h1)
  have HZ1 : Hid (∀ u ∈ lcs l, u.oneCell' = true) := fun u hu => by
   obtain ⟨j, hj⟩ := List.mem_iff_getElem?.1 hu
   obtain ⟨i, r, x, _, _, hv⟩ := lcs_of hj
   exact lgC_one hv
  have hzl : (lcs l).length = l.length * 6 := lcs_len l
  obtain ⟨i, hi, hz0, hz1, hz2⟩ := info_parts Tryz.infoLg
  have HEM : Hid ((w.alloc (.cells #[] 28)).ownsRow w.heap.size 28 6 (.slice (some ⟨w.heap.size, 0, none⟩) 0 0) 0 []) := World.ownsRow_made w #[] 0 (Nat.le_refl _) (by unfold maxLen; omega) rfl
  clear hr
  go_enter Tryz.func21, Tryz.ntmps21
  go_wp2_with (at_builtin; refine wpList_append_own _ rfl _ _ 22 rfl w.heap.size 28 i _ 6 80 Tryz.underlying22 hi hz0 hz1 hz2 rfl (by decide) _ _ _ rfl (uh HEM) ad l.length cp (lcs l) rfl hzl (uh HSR _) (uh HZ1) ?k1 ?k2 ?k3 ?_)
  case k1 => unfold maxLen; omega
  case k2 => omega
  case k3 => simp
  intro v2 w2 ho2 hg2 _
  have HB : Hid (Below w.heap.size w w2) := below_grown (a := some ⟨w.heap.size, 0, none⟩) (bA _) hg2 (Nat.le_refl _) (fun k hk => by simp [blk] at hk; omega)
  obtain ⟨a', c', rfl⟩ : ∃ a' c', v2 = .slice a' l.length c' := by
   rcases ho2.2 with ⟨hv, hn⟩ | ⟨g, cap, cur, hv, _⟩
   ·have : l.length = 0 := by omega
    exact ⟨none, 0, by rw [hv, this]⟩
   ·exact ⟨some ⟨g, 0, none⟩, cap, by rw [hv]⟩
  have HL : Hid (LRow w2 a' l.length l) := by
   refine ⟨rfl, fun hne => ?_⟩
   have ho3 : w2.ownsRow w.heap.size 28 6 (.slice a' l.length c') l.length (lcs l) := by simpa using ho2
   obtain ⟨g, rfl⟩ : ∃ g, a' = some ⟨g, 0, none⟩ := by
    rcases ho3.2 with ⟨hv, hn⟩ | ⟨g, cap, cur, hv, _⟩
    ·have : 0 < l.length := List.length_pos_iff.2 hne
     omega
    ·exact ⟨g, by cases hv; rfl⟩
   refine ⟨g, 0, rfl, (owns_lt ho3 g rfl).2, fun i x hx r v hv => ?_⟩
   have h1 := (owns_cell ho3 (i * 6 + r) v (lcs_at hx hv)).1
   rw [show 0 + i * 6 + r = i * 6 + r by omega]
   exact h1
  clear ho2 hg2 hzl
  go_wp2
  go_ret
  exact ⟨a', c', rfl, HL, HB⟩
end Go.Proofs.YtmpjeahibfdehaaGreatDoor
end
