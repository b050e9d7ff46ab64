/-
  jsonx: the document's machine: next.; jsonx: the document's Parse.
-/
import Derived.Test.YtbnbngmnoffmkaaGreatDoorPkJsesbk
import Derived.Test.YtbnbngmnoffmkaaGreatDoorPkJsesbl
import Derived.Test.YtbnbngmnoffmkaaGreatDoorPkJsesav
section
set_option linter.unusedVariables false
set_option maxRecDepth 1000000
namespace Go.Proofs.YtbnbngmnoffmkaaGreatDoor
open Go.RowKit

set_option maxHeartbeats 16000000 in
theorem rnx_0 (base N : Nat) (hN : N + 4 ≤ 1000000) (c : UInt8) {w : World} {g : Nat → Nat} {P : Nat} {m : Mc} {la : Option Addr} {lc : Nat} {vk vn : Int} {vt : List UInt8} {va1 : Option Addr} {vn1 vc1 : Nat} {va2 : Option Addr} {vn2 vc2 : Nat} {ta : Option Addr} {tc : Nat} {ca : Option Addr} {cc : Nat} {fs : List Value}
  (h : MS w g P base m la lc vk vn vt va1 vn1 vc1 va2 vn2 vc2 ta tc ca cc fs) (hbs : base ≤ w.heap.size) (hi : Iw N m) (hst : m.st = 0) :
  Calls Tryz.prog 22 #[.pointer (some ⟨P, 0, none⟩), .int .u8 (c.toNat : Int)] w fun e w' => Mp w g P base (nextM m c) e w' := by
 have H := hide h
 obtain ⟨hcell, hfr⟩ := h.cells
 have c0 : w.cell? ⟨P, 0, none⟩ = some (.int .i64 0) := (hcell 0 _ rfl).trans (by rw [hst]; rfl)
 have f0 := hfr 0
 have HB := hide hbs
 have HI := hide hi
 obtain ⟨R, hR⟩ : ∃ R, R = nextM m c := ⟨_, rfl⟩
 rw [← hR]
 unfold nextM at hR
 rw [if_pos (by omega)] at hR
 have HR := hide hR
 clear hcell hfr h hR hbs hi
 have HBk := hide (rblank_any c w)
 by_cases hb : blB4 c = true
 ·have HE : Hid (R = (0, m)) := by show _ = _; rw [unhide HR, if_pos hb]
  rw [hb] at HBk
  clear hb HR hst 
  go_enter Tryz.func22, Tryz.ntmps22
  go_wp2_with fail
  refine (unhide HBk).mono ?_
  rintro e w1 ⟨rfl, rfl⟩
  go_wp2_with fail
  go_ret
  show Mp _ g P base R _ _
  rw [unhide HE]
  exact ⟨g, rfl, fun _ => (unhide H).mb, Kq.refl _ _ _⟩
 ·have hbf : blB4 c = false := by simpa using hb
  rw [hbf] at HBk
  have HC := hide (rbegins4 N c (unhide H) (unhide HI).toIv (unhide HB))
  have HE : Hid (R = beginsM m c) := by show _ = _; rw [unhide HR, if_neg hb, if_neg (by omega)]
  generalize beginsM m c = DM at HC HE
  clear HR hst hb hbf
  go_enter Tryz.func22, Tryz.ntmps22
  go_wp2_with fail
  refine (unhide HBk).mono ?_
  rintro e w1 ⟨rfl, rfl⟩
  go_wp2_with fail
  refine (unhide HC).mono ?_
  rintro e w3 ⟨g3, rfl, m3, k3⟩
  have HM3 := hide m3
  have HK3 := hide k3
  clear m3 k3 HC
  go_wp2_with fail
  go_ret
  show Mp _ g P base R _ _
  rw [unhide HE]
  exact ⟨g3, rfl, unhide HM3, unhide HK3⟩
set_option maxHeartbeats 16000000 in
theorem rnx_1 (base N : Nat) (hN : N + 4 ≤ 1000000) (c : UInt8) {w : World} {g : Nat → Nat} {P : Nat} {m : Mc} {la : Option Addr} {lc : Nat} {vk vn : Int} {vt : List UInt8} {va1 : Option Addr} {vn1 vc1 : Nat} {va2 : Option Addr} {vn2 vc2 : Nat} {ta : Option Addr} {tc : Nat} {ca : Option Addr} {cc : Nat} {fs : List Value}
  (h : MS w g P base m la lc vk vn vt va1 vn1 vc1 va2 vn2 vc2 ta tc ca cc fs) (hbs : base ≤ w.heap.size) (hi : Iw N m) (hst : m.st = 1) :
  Calls Tryz.prog 22 #[.pointer (some ⟨P, 0, none⟩), .int .u8 (c.toNat : Int)] w fun e w' => Mp w g P base (nextM m c) e w' := by
 have H := hide h
 obtain ⟨hcell, hfr⟩ := h.cells
 have c0 : w.cell? ⟨P, 0, none⟩ = some (.int .i64 1) := (hcell 0 _ rfl).trans (by rw [hst]; rfl)
 have f0 := hfr 0
 have HB := hide hbs
 have HI := hide hi
 obtain ⟨R, hR⟩ : ∃ R, R = nextM m c := ⟨_, rfl⟩
 rw [← hR]
 unfold nextM at hR
 rw [if_pos (by omega)] at hR
 have HR := hide hR
 clear hcell hfr h hR hbs hi
 have HBk := hide (rblank_any c w)
 by_cases hb : blB4 c = true
 ·have HE : Hid (R = (0, m)) := by show _ = _; rw [unhide HR, if_pos hb]
  rw [hb] at HBk
  clear hb HR hst 
  go_enter Tryz.func22, Tryz.ntmps22
  go_wp2_with fail
  refine (unhide HBk).mono ?_
  rintro e w1 ⟨rfl, rfl⟩
  go_wp2_with fail
  go_ret
  show Mp _ g P base R _ _
  rw [unhide HE]
  exact ⟨g, rfl, fun _ => (unhide H).mb, Kq.refl _ _ _⟩
 ·have hbf : blB4 c = false := by simpa using hb
  rw [hbf] at HBk
  by_cases h93 : c = 93
  ·have u93 : ((c.toNat : Int) == 93) = true := by rw [h93]; rfl
   have HC := hide (rends_any base N (by omega) c w g P m (unhide H).mb (unhide HB) (fun o ho => ⟨((unhide HI).ns o ho).1, ((unhide HI).ns o ho).2.1⟩) (unhide HI).l16)
   have HE : Hid (R = endsM m c) := by show _ = _; rw [unhide HR, if_neg hb, if_pos ⟨hst, h93⟩]
   generalize endsM m c = DM at HC HE
   clear HR hst hb hbf h93
   go_enter Tryz.func22, Tryz.ntmps22
   go_wp2_with fail
   refine (unhide HBk).mono ?_
   rintro e w1 ⟨rfl, rfl⟩
   go_wp2_with fail
   refine (unhide HC).mono ?_
   rintro e w3 ⟨g3, rfl, m3, k3⟩
   have HM3 := hide m3
   have HK3 := hide k3
   clear m3 k3 HC
   go_wp2_with fail
   go_ret
   show Mp _ g P base R _ _
   rw [unhide HE]
   exact ⟨g3, rfl, unhide HM3, unhide HK3⟩
  ·have u93 : ((c.toNat : Int) == 93) = false := by rw [beq_eq_false_iff_ne]; exact fun e => h93 (UInt8.toNat_inj.1 (by show c.toNat = 93; omega))
   have HC := hide (rbegins4 N c (unhide H) (unhide HI).toIv (unhide HB))
   have HE : Hid (R = beginsM m c) := by show _ = _; rw [unhide HR, if_neg hb, if_neg (fun e => h93 e.2)]
   generalize beginsM m c = DM at HC HE
   clear HR hst hb hbf h93
   go_enter Tryz.func22, Tryz.ntmps22
   go_wp2_with fail
   refine (unhide HBk).mono ?_
   rintro e w1 ⟨rfl, rfl⟩
   go_wp2_with fail
   refine (unhide HC).mono ?_
   rintro e w3 ⟨g3, rfl, m3, k3⟩
   have HM3 := hide m3
   have HK3 := hide k3
   clear m3 k3 HC
   go_wp2_with fail
   go_ret
   show Mp _ g P base R _ _
   rw [unhide HE]
   exact ⟨g3, rfl, unhide HM3, unhide HK3⟩
set_option maxHeartbeats 16000000 in
theorem rnx_2 (base N : Nat) (hN : N + 4 ≤ 1000000) (c : UInt8) {w : World} {g : Nat → Nat} {P : Nat} {m : Mc} {la : Option Addr} {lc : Nat} {vk vn : Int} {vt : List UInt8} {va1 : Option Addr} {vn1 vc1 : Nat} {va2 : Option Addr} {vn2 vc2 : Nat} {ta : Option Addr} {tc : Nat} {ca : Option Addr} {cc : Nat} {fs : List Value}
  (h : MS w g P base m la lc vk vn vt va1 vn1 vc1 va2 vn2 vc2 ta tc ca cc fs) (hbs : base ≤ w.heap.size) (hi : Iw N m) (hst : m.st = 2) :
  Calls Tryz.prog 22 #[.pointer (some ⟨P, 0, none⟩), .int .u8 (c.toNat : Int)] w fun e w' => Mp w g P base (nextM m c) e w' := by
 have H := hide h
 obtain ⟨hcell, hfr⟩ := h.cells
 have c0 : w.cell? ⟨P, 0, none⟩ = some (.int .i64 2) := (hcell 0 _ rfl).trans (by rw [hst]; rfl)
 have f0 := hfr 0
 have c8 := hcell 8 _ rfl
 have f8 := hfr 8
 have c9 := hcell 9 _ rfl
 have f9 := hfr 9
 try dsimp only at c8
 try dsimp only at c9
 have HB := hide hbs
 have HI := hide hi
 obtain ⟨R, hR⟩ : ∃ R, R = nextM m c := ⟨_, rfl⟩
 rw [← hR]
 unfold nextM at hR
 rw [if_neg (by omega), if_pos (by omega)] at hR
 have HR := hide hR
 clear hcell hfr h hR hbs hi
 have HBk := hide (rblank_any c w)
 by_cases hb : blB4 c = true
 ·have HE : Hid (R = (0, m)) := by show _ = _; rw [unhide HR, if_pos hb]
  rw [hb] at HBk
  clear hb HR hst 
  go_enter Tryz.func22, Tryz.ntmps22
  go_wp2_with fail
  refine (unhide HBk).mono ?_
  rintro e w1 ⟨rfl, rfl⟩
  go_wp2_with fail
  go_ret
  show Mp _ g P base R _ _
  rw [unhide HE]
  exact ⟨g, rfl, fun _ => (unhide H).mb, Kq.refl _ _ _⟩
 ·have hbf : blB4 c = false := by simpa using hb
  rw [hbf] at HBk
  by_cases h34 : c = 34
  ·have u34 : ((c.toNat : Int) == 34) = true := by rw [h34]; rfl
   have HE : Hid (R = (0, { m with st := 9, text := [], isKey := true })) := by show _ = _; rw [unhide HR, if_neg hb, if_neg (by omega), if_neg (by rw [h34]; decide)]
   have HF : Hid (∀ w', w' = (((w.setCell ⟨P, 0, none⟩ (.int .i64 9)).setCell ⟨P, 8, none⟩ (.slice none 0 0)).setCell ⟨P, 9, none⟩ (.bool true)) → Mp w g P base (0, { m with st := 9, text := [], isKey := true }) (.returned (.int .i64 0)) w') := fun w' e => by
    have mv : Mv w w' P := by rw [e]; exact ((Mv.set _ _ _ _).trans (Mv.set _ _ _ _)).trans (Mv.set _ _ _ _)
    exact MS.untext (unhide H) mv rfl rfl rfl rfl (by rw [e]; exact (heap_setCell_same _ _ _ _ _ _ (heap_setCell_same _ _ _ _ _ _ (heap_setCell_same _ _ _ _ _ _ (unhide H).row))))
   clear HR hst hb hbf h34
   go_enter Tryz.func22, Tryz.ntmps22
   go_wp2_with fail
   refine (unhide HBk).mono ?_
   rintro e w1 ⟨rfl, rfl⟩
   go_wp2_with fail
   go_ret
   show Mp _ g P base R _ _
   rw [unhide HE]
   exact unhide HF _ rfl
  ·have u34 : ((c.toNat : Int) == 34) = false := by rw [beq_eq_false_iff_ne]; exact fun e => h34 (UInt8.toNat_inj.1 (by show c.toNat = 34; omega))
   have HE : Hid (R = (40, m)) := by show _ = _; rw [unhide HR, if_neg hb, if_neg (by omega), if_pos h34]
   clear HR hst hb hbf h34
   go_enter Tryz.func22, Tryz.ntmps22
   go_wp2_with fail
   refine (unhide HBk).mono ?_
   rintro e w1 ⟨rfl, rfl⟩
   go_wp2_with fail
   go_ret
   show Mp _ g P base R _ _
   rw [unhide HE]
   exact (unhide H).fail 40 (by omega) m
set_option maxHeartbeats 16000000 in
theorem rnx_3 (base N : Nat) (hN : N + 4 ≤ 1000000) (c : UInt8) {w : World} {g : Nat → Nat} {P : Nat} {m : Mc} {la : Option Addr} {lc : Nat} {vk vn : Int} {vt : List UInt8} {va1 : Option Addr} {vn1 vc1 : Nat} {va2 : Option Addr} {vn2 vc2 : Nat} {ta : Option Addr} {tc : Nat} {ca : Option Addr} {cc : Nat} {fs : List Value}
  (h : MS w g P base m la lc vk vn vt va1 vn1 vc1 va2 vn2 vc2 ta tc ca cc fs) (hbs : base ≤ w.heap.size) (hi : Iw N m) (hst : m.st = 3) :
  Calls Tryz.prog 22 #[.pointer (some ⟨P, 0, none⟩), .int .u8 (c.toNat : Int)] w fun e w' => Mp w g P base (nextM m c) e w' := by
 have H := hide h
 obtain ⟨hcell, hfr⟩ := h.cells
 have c0 : w.cell? ⟨P, 0, none⟩ = some (.int .i64 3) := (hcell 0 _ rfl).trans (by rw [hst]; rfl)
 have f0 := hfr 0
 have c8 := hcell 8 _ rfl
 have f8 := hfr 8
 have c9 := hcell 9 _ rfl
 have f9 := hfr 9
 try dsimp only at c8
 try dsimp only at c9
 have HB := hide hbs
 have HI := hide hi
 obtain ⟨R, hR⟩ : ∃ R, R = nextM m c := ⟨_, rfl⟩
 rw [← hR]
 unfold nextM at hR
 rw [if_neg (by omega), if_pos (by omega)] at hR
 have HR := hide hR
 clear hcell hfr h hR hbs hi
 have HBk := hide (rblank_any c w)
 by_cases hb : blB4 c = true
 ·have HE : Hid (R = (0, m)) := by show _ = _; rw [unhide HR, if_pos hb]
  rw [hb] at HBk
  clear hb HR hst 
  go_enter Tryz.func22, Tryz.ntmps22
  go_wp2_with fail
  refine (unhide HBk).mono ?_
  rintro e w1 ⟨rfl, rfl⟩
  go_wp2_with fail
  go_ret
  show Mp _ g P base R _ _
  rw [unhide HE]
  exact ⟨g, rfl, fun _ => (unhide H).mb, Kq.refl _ _ _⟩
 ·have hbf : blB4 c = false := by simpa using hb
  rw [hbf] at HBk
  by_cases h125 : c = 125
  ·have u125 : ((c.toNat : Int) == 125) = true := by rw [h125]; rfl
   have HC := hide (rends_any base N (by omega) c w g P m (unhide H).mb (unhide HB) (fun o ho => ⟨((unhide HI).ns o ho).1, ((unhide HI).ns o ho).2.1⟩) (unhide HI).l16)
   have HE : Hid (R = endsM m c) := by show _ = _; rw [unhide HR, if_neg hb, if_pos ⟨hst, h125⟩]
   generalize endsM m c = DM at HC HE
   clear HR hst hb hbf h125
   go_enter Tryz.func22, Tryz.ntmps22
   go_wp2_with fail
   refine (unhide HBk).mono ?_
   rintro e w1 ⟨rfl, rfl⟩
   go_wp2_with fail
   refine (unhide HC).mono ?_
   rintro e w3 ⟨g3, rfl, m3, k3⟩
   have HM3 := hide m3
   have HK3 := hide k3
   clear m3 k3 HC
   go_wp2_with fail
   go_ret
   show Mp _ g P base R _ _
   rw [unhide HE]
   exact ⟨g3, rfl, unhide HM3, unhide HK3⟩
  ·have u125 : ((c.toNat : Int) == 125) = false := by rw [beq_eq_false_iff_ne]; exact fun e => h125 (UInt8.toNat_inj.1 (by show c.toNat = 125; omega))
   by_cases h34 : c = 34
   ·have u34 : ((c.toNat : Int) == 34) = true := by rw [h34]; rfl
    have HE : Hid (R = (0, { m with st := 9, text := [], isKey := true })) := by show _ = _; rw [unhide HR, if_neg hb, if_neg (fun e => h125 e.2), if_neg (by rw [h34]; decide)]
    have HF : Hid (∀ w', w' = (((w.setCell ⟨P, 0, none⟩ (.int .i64 9)).setCell ⟨P, 8, none⟩ (.slice none 0 0)).setCell ⟨P, 9, none⟩ (.bool true)) → Mp w g P base (0, { m with st := 9, text := [], isKey := true }) (.returned (.int .i64 0)) w') := fun w' e => by
     have mv : Mv w w' P := by rw [e]; exact ((Mv.set _ _ _ _).trans (Mv.set _ _ _ _)).trans (Mv.set _ _ _ _)
     exact MS.untext (unhide H) mv rfl rfl rfl rfl (by rw [e]; exact (heap_setCell_same _ _ _ _ _ _ (heap_setCell_same _ _ _ _ _ _ (heap_setCell_same _ _ _ _ _ _ (unhide H).row))))
    clear HR hst hb hbf h34 h125
    go_enter Tryz.func22, Tryz.ntmps22
    go_wp2_with fail
    refine (unhide HBk).mono ?_
    rintro e w1 ⟨rfl, rfl⟩
    go_wp2_with fail
    go_ret
    show Mp _ g P base R _ _
    rw [unhide HE]
    exact unhide HF _ rfl
   ·have u34 : ((c.toNat : Int) == 34) = false := by rw [beq_eq_false_iff_ne]; exact fun e => h34 (UInt8.toNat_inj.1 (by show c.toNat = 34; omega))
    have HE : Hid (R = (40, m)) := by show _ = _; rw [unhide HR, if_neg hb, if_neg (fun e => h125 e.2), if_pos h34]
    clear HR hst hb hbf h34 h125
    go_enter Tryz.func22, Tryz.ntmps22
    go_wp2_with fail
    refine (unhide HBk).mono ?_
    rintro e w1 ⟨rfl, rfl⟩
    go_wp2_with fail
    go_ret
    show Mp _ g P base R _ _
    rw [unhide HE]
    exact (unhide H).fail 40 (by omega) m
set_option maxHeartbeats 16000000 in
theorem rnx_4 (base N : Nat) (hN : N + 4 ≤ 1000000) (c : UInt8) {w : World} {g : Nat → Nat} {P : Nat} {m : Mc} {la : Option Addr} {lc : Nat} {vk vn : Int} {vt : List UInt8} {va1 : Option Addr} {vn1 vc1 : Nat} {va2 : Option Addr} {vn2 vc2 : Nat} {ta : Option Addr} {tc : Nat} {ca : Option Addr} {cc : Nat} {fs : List Value}
  (h : MS w g P base m la lc vk vn vt va1 vn1 vc1 va2 vn2 vc2 ta tc ca cc fs) (hbs : base ≤ w.heap.size) (hi : Iw N m) (hst : m.st = 4) :
  Calls Tryz.prog 22 #[.pointer (some ⟨P, 0, none⟩), .int .u8 (c.toNat : Int)] w fun e w' => Mp w g P base (nextM m c) e w' := by
 have H := hide h
 obtain ⟨hcell, hfr⟩ := h.cells
 have c0 : w.cell? ⟨P, 0, none⟩ = some (.int .i64 4) := (hcell 0 _ rfl).trans (by rw [hst]; rfl)
 have f0 := hfr 0
 have HB := hide hbs
 have HI := hide hi
 obtain ⟨R, hR⟩ : ∃ R, R = nextM m c := ⟨_, rfl⟩
 rw [← hR]
 unfold nextM at hR
 rw [if_neg (by omega), if_neg (by omega), if_pos (by omega)] at hR
 have HR := hide hR
 clear hcell hfr h hR hbs hi
 by_cases h58 : c = 58
 ·have u58 : ((c.toNat : Int) == 58) = true := by rw [h58]; rfl
  have HE : Hid (R = (0, { m with st := 0 })) := by show _ = _; rw [unhide HR, if_pos h58]
  have HF : Hid (∀ w', w' = (w.setCell ⟨P, 0, none⟩ (.int .i64 0)) → Mp w g P base (0, { m with st := 0 }) (.returned (.int .i64 0)) w') := fun w' e => by
   have mv : Mv w w' P := by rw [e]; exact Mv.set _ _ _ _
   exact (unhide H).fin0 mv rfl rfl rfl rfl (by rw [e]; exact (heap_setCell_same _ _ _ _ _ _ (unhide H).row))
  clear HR hst h58
  go_enter Tryz.func22, Tryz.ntmps22
  go_wp2_with fail
  go_ret
  show Mp _ g P base R _ _
  rw [unhide HE]
  exact unhide HF _ rfl
 ·have u58 : ((c.toNat : Int) == 58) = false := by rw [beq_eq_false_iff_ne]; exact fun e => h58 (UInt8.toNat_inj.1 (by show c.toNat = 58; omega))
  have HBk := hide (rblank_any c w)
  by_cases hb : blB4 c = true
  ·have HE : Hid (R = (0, m)) := by show _ = _; rw [unhide HR, if_neg h58, if_pos hb]
   rw [hb] at HBk
   clear hb HR hst h58
   go_enter Tryz.func22, Tryz.ntmps22
   go_wp2_with fail
   refine (unhide HBk).mono ?_
   rintro e w1 ⟨rfl, rfl⟩
   go_wp2_with fail
   go_ret
   show Mp _ g P base R _ _
   rw [unhide HE]
   exact ⟨g, rfl, fun _ => (unhide H).mb, Kq.refl _ _ _⟩
  ·have hbf : blB4 c = false := by simpa using hb
   rw [hbf] at HBk
   have HE : Hid (R = (40, m)) := by show _ = _; rw [unhide HR, if_neg h58, if_neg hb]
   clear HR hst hb hbf h58
   go_enter Tryz.func22, Tryz.ntmps22
   go_wp2_with fail
   refine (unhide HBk).mono ?_
   rintro e w1 ⟨rfl, rfl⟩
   go_wp2_with fail
   go_ret
   show Mp _ g P base R _ _
   rw [unhide HE]
   exact (unhide H).fail 40 (by omega) m
set_option maxHeartbeats 16000000 in
theorem rnx_5 (base N : Nat) (hN : N + 4 ≤ 1000000) (c : UInt8) {w : World} {g : Nat → Nat} {P : Nat} {m : Mc} {la : Option Addr} {lc : Nat} {vk vn : Int} {vt : List UInt8} {va1 : Option Addr} {vn1 vc1 : Nat} {va2 : Option Addr} {vn2 vc2 : Nat} {ta : Option Addr} {tc : Nat} {ca : Option Addr} {cc : Nat} {fs : List Value}
  (h : MS w g P base m la lc vk vn vt va1 vn1 vc1 va2 vn2 vc2 ta tc ca cc fs) (hbs : base ≤ w.heap.size) (hi : Iw N m) (hst : m.st = 5) :
  Calls Tryz.prog 22 #[.pointer (some ⟨P, 0, none⟩), .int .u8 (c.toNat : Int)] w fun e w' => Mp w g P base (nextM m c) e w' := by
 have H := hide h
 obtain ⟨hcell, hfr⟩ := h.cells
 have c0 : w.cell? ⟨P, 0, none⟩ = some (.int .i64 5) := (hcell 0 _ rfl).trans (by rw [hst]; rfl)
 have f0 := hfr 0
 have HB := hide hbs
 have HI := hide hi
 obtain ⟨R, hR⟩ : ∃ R, R = nextM m c := ⟨_, rfl⟩
 rw [← hR]
 unfold nextM at hR
 rw [if_neg (by omega), if_neg (by omega), if_neg (by omega), if_pos (by omega)] at hR
 have HR := hide hR
 clear hcell hfr h hR hbs hi
 have HC := hide (rends_any base N (by omega) c w g P m (unhide H).mb (unhide HB) (fun o ho => ⟨((unhide HI).ns o ho).1, ((unhide HI).ns o ho).2.1⟩) (unhide HI).l16)
 have HE : Hid (R = endsM m c) := by show _ = _; rw [unhide HR]
 generalize endsM m c = DM at HC HE
 clear HR hst 
 go_enter Tryz.func22, Tryz.ntmps22
 go_wp2_with fail
 refine (unhide HC).mono ?_
 rintro e w3 ⟨g3, rfl, m3, k3⟩
 have HM3 := hide m3
 have HK3 := hide k3
 clear m3 k3 HC
 go_wp2_with fail
 go_ret
 show Mp _ g P base R _ _
 rw [unhide HE]
 exact ⟨g3, rfl, unhide HM3, unhide HK3⟩
set_option maxHeartbeats 16000000 in
theorem rnx_6 (base N : Nat) (hN : N + 4 ≤ 1000000) (c : UInt8) {w : World} {g : Nat → Nat} {P : Nat} {m : Mc} {la : Option Addr} {lc : Nat} {vk vn : Int} {vt : List UInt8} {va1 : Option Addr} {vn1 vc1 : Nat} {va2 : Option Addr} {vn2 vc2 : Nat} {ta : Option Addr} {tc : Nat} {ca : Option Addr} {cc : Nat} {fs : List Value}
  (h : MS w g P base m la lc vk vn vt va1 vn1 vc1 va2 vn2 vc2 ta tc ca cc fs) (hbs : base ≤ w.heap.size) (hi : Iw N m) (hst : m.st = 6) :
  Calls Tryz.prog 22 #[.pointer (some ⟨P, 0, none⟩), .int .u8 (c.toNat : Int)] w fun e w' => Mp w g P base (nextM m c) e w' := by
 have H := hide h
 obtain ⟨hcell, hfr⟩ := h.cells
 have c0 : w.cell? ⟨P, 0, none⟩ = some (.int .i64 6) := (hcell 0 _ rfl).trans (by rw [hst]; rfl)
 have f0 := hfr 0
 have c2 := hcell 2 _ rfl
 have f2 := hfr 2
 try dsimp only at c2
 have HB := hide hbs
 have HI := hide hi
 obtain ⟨R, hR⟩ : ∃ R, R = nextM m c := ⟨_, rfl⟩
 rw [← hR]
 unfold nextM at hR
 rw [if_neg (by omega), if_neg (by omega), if_neg (by omega), if_neg (by omega), if_pos (by omega)] at hR
 have HR := hide hR
 clear hcell hfr h hR hbs hi
 obtain ⟨x, r, hrs⟩ : ∃ x r, m.rest = x :: r := by
  cases hq : m.rest with
  | nil => exact absurd hq ((unhide HI).rest hst)
  | cons x r => exact ⟨x, r, rfl⟩
 rw [hrs] at c2
 have HR : Hid (R = if c ≠ x then (40, m) else if r = [] then (0, doneM { m with rest := r } m.v) else (0, { m with rest := r })) := by
  show _ = _
  rw [unhide HR, hrs]
 have kix : ∀ u, (Instr.index 9 (.string (str (x :: r))) (.int .i64 0)).run Tryz.prog u = .ok (.int .u8 (x.toNat : Int)) u := fun u => run_ix4 u (x :: r) 0 x rfl
 have ksl : ∀ u, (Instr.slice 9 (.string (str (x :: r))) (some (.int .i64 1)) none none).run Tryz.prog u = .ok (.string (str r)) u := fun u => by
  rw [run_slice_string_l u 9 (str (x :: r)) Tryz.underlying9 .i64 1 (by decide) (by rw [str_size]; simp; omega)]
  have : (str (x :: r)).extract (1 : Int).toNat (str (x :: r)).size = str r := by
   apply ByteArray.ext
   simp [str, ByteArray.data_extract, ByteArray.size]
  rw [this]
 obtain ⟨Sx, hSx⟩ : ∃ Sx, Sx = str (x :: r) := ⟨_, rfl⟩
 rw [← hSx] at c2
 simp only [← hSx] at kix ksl
 clear hSx hrs
 by_cases hcx : c = x
 ·have ucx : ((c.toNat : Int) == (x.toNat : Int)) = true := by rw [hcx]; simp
  obtain ⟨w1, hw1⟩ : ∃ w1, w1 = w.setCell ⟨P, 2, none⟩ (.string (str r)) := ⟨_, rfl⟩
  have mv1 : Mv w w1 P := by rw [hw1]; exact Mv.set _ _ _ _
  have h1 := (unhide H).mv (m' := { m with rest := r }) mv1 rfl rfl rfl rfl (by rw [hw1]; exact heap_setCell_same _ _ _ _ _ _ (unhide H).row)
  have K1 : Hid (Kq w w1 g g (· = 5)) := (Kq.ofMv mv1 (unhide H).tP).mono (fun t ht => by omega)
  have H1 := hide h1
  obtain ⟨hc1, hf1⟩ := h1.cells
  have d2 := hc1 2 (.string (str r)) rfl
  have d3 := hc1 3 (.int .i64 vk) rfl
  have d4 := hc1 4 (.int .i64 vn) rfl
  have d5 := hc1 5 (.string (str vt)) rfl
  have d6 := hc1 6 (.slice va1 vn1 vc1) rfl
  have d7 := hc1 7 (.slice va2 vn2 vc2) rfl
  by_cases hr0 : r = []
  ·have e0 : (str r).toList.isEmpty = true := by rw [toList_str, hr0]; rfl
   have HC := hide (rdone_any base N (by omega) m.v vk vn vt va1 vn1 vc1 va2 vn2 vc2 w1 g P { m with rest := r } h1.mb h1.jv (Nat.le_trans (unhide HB) mv1.size) (fun o ho => ⟨((unhide HI).ns o ho).1, ((unhide HI).ns o ho).2.1⟩) (unhide HI).l16)
   have HE : Hid (R = (0, doneM { m with rest := r } m.v)) := by show _ = _; rw [unhide HR, if_neg (by rw [hcx]; simp), if_pos hr0]
   generalize doneM { m with rest := r } m.v = DM at HC HE
   clear HR hst hcx hr0 h1 hc1 hf1 mv1 H1
   go_enter Tryz.func22, Tryz.ntmps22
   go_upto_region 31 with fail
   rw [← hw1]
   clear hw1 c0 f0 c2 f2
   go_wp2_with fail
   refine (unhide HC).mono ?_
   rintro e w3 ⟨g3, rfl, m3, k3⟩
   have HM3 := hide m3
   have HK3 := hide k3
   clear m3 k3 HC
   go_wp2_with fail
   go_ret
   show Mp _ g P base R _ _
   rw [unhide HE]
   exact ⟨g3, rfl, fun _ => unhide HM3, (unhide K1).trans (unhide HK3)⟩
  ·have e0 : (str r).toList.isEmpty = false := by rw [toList_str]; simpa using hr0
   have HE : Hid (R = (0, { m with rest := r })) := by show _ = _; rw [unhide HR, if_neg (by rw [hcx]; simp), if_neg hr0]
   clear HR hst hcx hr0 h1 hc1 hf1 mv1 d3 d4 d5 d6 d7
   go_enter Tryz.func22, Tryz.ntmps22
   go_upto_region 31 with fail
   rw [← hw1]
   clear hw1 c0 f0 c2 f2
   go_wp2_with fail
   go_ret
   show Mp _ g P base R _ _
   rw [unhide HE]
   exact ⟨g, rfl, fun _ => (unhide H1).mb, unhide K1⟩
 ·have ucx : ((c.toNat : Int) == (x.toNat : Int)) = false := by rw [beq_eq_false_iff_ne]; exact fun e => hcx (UInt8.toNat_inj.1 (by omega))
  have HE : Hid (R = (40, m)) := by show _ = _; rw [unhide HR, if_pos hcx]
  clear HR hst hcx
  go_enter Tryz.func22, Tryz.ntmps22
  go_wp2_with fail
  go_ret
  show Mp _ g P base R _ _
  rw [unhide HE]
  exact (unhide H).fail 40 (by omega) m
set_option maxHeartbeats 16000000 in
theorem rnx_7 (base N : Nat) (hN : N + 4 ≤ 1000000) (c : UInt8) {w : World} {g : Nat → Nat} {P : Nat} {m : Mc} {la : Option Addr} {lc : Nat} {vk vn : Int} {vt : List UInt8} {va1 : Option Addr} {vn1 vc1 : Nat} {va2 : Option Addr} {vn2 vc2 : Nat} {ta : Option Addr} {tc : Nat} {ca : Option Addr} {cc : Nat} {fs : List Value}
  (h : MS w g P base m la lc vk vn vt va1 vn1 vc1 va2 vn2 vc2 ta tc ca cc fs) (hbs : base ≤ w.heap.size) (hi : Iw N m) (hst : m.st = 7) :
  Calls Tryz.prog 22 #[.pointer (some ⟨P, 0, none⟩), .int .u8 (c.toNat : Int)] w fun e w' => Mp w g P base (nextM m c) e w' := by
 have H := hide h
 obtain ⟨hcell, hfr⟩ := h.cells
 have c0 : w.cell? ⟨P, 0, none⟩ = some (.int .i64 7) := (hcell 0 _ rfl).trans (by rw [hst]; rfl)
 have f0 := hfr 0
 have HB := hide hbs
 have HI := hide hi
 obtain ⟨R, hR⟩ : ∃ R, R = nextM m c := ⟨_, rfl⟩
 rw [← hR]
 unfold nextM at hR
 rw [if_neg (by omega), if_neg (by omega), if_neg (by omega), if_neg (by omega), if_neg (by omega), if_pos (by omega)] at hR
 have HR := hide hR
 clear hcell hfr h hR hbs hi
 have HC := hide (rfigure_any base N (by omega) c w g P m (unhide H).mb (unhide HB) (unhide HI).toIv)
 have HE : Hid (R = figureM m c) := by show _ = _; rw [unhide HR]
 generalize figureM m c = DM at HC HE
 clear HR hst 
 go_enter Tryz.func22, Tryz.ntmps22
 go_wp2_with fail
 refine (unhide HC).mono ?_
 rintro e w3 ⟨g3, rfl, m3, k3⟩
 have HM3 := hide m3
 have HK3 := hide k3
 clear m3 k3 HC
 go_wp2_with fail
 go_ret
 show Mp _ g P base R _ _
 rw [unhide HE]
 exact ⟨g3, rfl, unhide HM3, unhide HK3⟩
set_option maxHeartbeats 16000000 in
theorem rnx_8 (base N : Nat) (hN : N + 4 ≤ 1000000) (c : UInt8) {w : World} {g : Nat → Nat} {P : Nat} {m : Mc} {la : Option Addr} {lc : Nat} {vk vn : Int} {vt : List UInt8} {va1 : Option Addr} {vn1 vc1 : Nat} {va2 : Option Addr} {vn2 vc2 : Nat} {ta : Option Addr} {tc : Nat} {ca : Option Addr} {cc : Nat} {fs : List Value}
  (h : MS w g P base m la lc vk vn vt va1 vn1 vc1 va2 vn2 vc2 ta tc ca cc fs) (hbs : base ≤ w.heap.size) (hi : Iw N m) (hst : m.st = 8) :
  Calls Tryz.prog 22 #[.pointer (some ⟨P, 0, none⟩), .int .u8 (c.toNat : Int)] w fun e w' => Mp w g P base (nextM m c) e w' := by
 have H := hide h
 obtain ⟨hcell, hfr⟩ := h.cells
 have c0 : w.cell? ⟨P, 0, none⟩ = some (.int .i64 8) := (hcell 0 _ rfl).trans (by rw [hst]; rfl)
 have f0 := hfr 0
 have HB := hide hbs
 have HI := hide hi
 obtain ⟨R, hR⟩ : ∃ R, R = nextM m c := ⟨_, rfl⟩
 rw [← hR]
 unfold nextM at hR
 rw [if_neg (by omega), if_neg (by omega), if_neg (by omega), if_neg (by omega), if_neg (by omega), if_pos (by omega)] at hR
 have HR := hide hR
 clear hcell hfr h hR hbs hi
 have HC := hide (rfigure_any base N (by omega) c w g P m (unhide H).mb (unhide HB) (unhide HI).toIv)
 have HE : Hid (R = figureM m c) := by show _ = _; rw [unhide HR]
 generalize figureM m c = DM at HC HE
 clear HR hst 
 go_enter Tryz.func22, Tryz.ntmps22
 go_wp2_with fail
 refine (unhide HC).mono ?_
 rintro e w3 ⟨g3, rfl, m3, k3⟩
 have HM3 := hide m3
 have HK3 := hide k3
 clear m3 k3 HC
 go_wp2_with fail
 go_ret
 show Mp _ g P base R _ _
 rw [unhide HE]
 exact ⟨g3, rfl, unhide HM3, unhide HK3⟩
set_option maxHeartbeats 16000000 in
theorem rnx_14 (base N : Nat) (hN : N + 4 ≤ 1000000) (c : UInt8) {w : World} {g : Nat → Nat} {P : Nat} {m : Mc} {la : Option Addr} {lc : Nat} {vk vn : Int} {vt : List UInt8} {va1 : Option Addr} {vn1 vc1 : Nat} {va2 : Option Addr} {vn2 vc2 : Nat} {ta : Option Addr} {tc : Nat} {ca : Option Addr} {cc : Nat} {fs : List Value}
  (h : MS w g P base m la lc vk vn vt va1 vn1 vc1 va2 vn2 vc2 ta tc ca cc fs) (hbs : base ≤ w.heap.size) (hi : Iw N m) (hst : m.st = 14) :
  Calls Tryz.prog 22 #[.pointer (some ⟨P, 0, none⟩), .int .u8 (c.toNat : Int)] w fun e w' => Mp w g P base (nextM m c) e w' := by
 have H := hide h
 obtain ⟨hcell, hfr⟩ := h.cells
 have c0 : w.cell? ⟨P, 0, none⟩ = some (.int .i64 14) := (hcell 0 _ rfl).trans (by rw [hst]; rfl)
 have f0 := hfr 0
 have HB := hide hbs
 have HI := hide hi
 obtain ⟨R, hR⟩ : ∃ R, R = nextM m c := ⟨_, rfl⟩
 rw [← hR]
 unfold nextM at hR
 rw [if_neg (by omega), if_neg (by omega), if_neg (by omega), if_neg (by omega), if_neg (by omega), if_pos (by omega)] at hR
 have HR := hide hR
 clear hcell hfr h hR hbs hi
 have HC := hide (rfigure_any base N (by omega) c w g P m (unhide H).mb (unhide HB) (unhide HI).toIv)
 have HE : Hid (R = figureM m c) := by show _ = _; rw [unhide HR]
 generalize figureM m c = DM at HC HE
 clear HR hst 
 go_enter Tryz.func22, Tryz.ntmps22
 go_wp2_with fail
 refine (unhide HC).mono ?_
 rintro e w3 ⟨g3, rfl, m3, k3⟩
 have HM3 := hide m3
 have HK3 := hide k3
 clear m3 k3 HC
 go_wp2_with fail
 go_ret
 show Mp _ g P base R _ _
 rw [unhide HE]
 exact ⟨g3, rfl, unhide HM3, unhide HK3⟩
set_option maxHeartbeats 16000000 in
theorem rnx_9 (base N : Nat) (hN : N + 4 ≤ 1000000) (c : UInt8) {w : World} {g : Nat → Nat} {P : Nat} {m : Mc} {la : Option Addr} {lc : Nat} {vk vn : Int} {vt : List UInt8} {va1 : Option Addr} {vn1 vc1 : Nat} {va2 : Option Addr} {vn2 vc2 : Nat} {ta : Option Addr} {tc : Nat} {ca : Option Addr} {cc : Nat} {fs : List Value}
  (h : MS w g P base m la lc vk vn vt va1 vn1 vc1 va2 vn2 vc2 ta tc ca cc fs) (hbs : base ≤ w.heap.size) (hi : Iw N m) (hst : m.st = 9) :
  Calls Tryz.prog 22 #[.pointer (some ⟨P, 0, none⟩), .int .u8 (c.toNat : Int)] w fun e w' => Mp w g P base (nextM m c) e w' := by
 have H := hide h
 obtain ⟨hcell, hfr⟩ := h.cells
 have c0 : w.cell? ⟨P, 0, none⟩ = some (.int .i64 9) := (hcell 0 _ rfl).trans (by rw [hst]; rfl)
 have f0 := hfr 0
 have HB := hide hbs
 have HI := hide hi
 obtain ⟨R, hR⟩ : ∃ R, R = nextM m c := ⟨_, rfl⟩
 rw [← hR]
 unfold nextM at hR
 rw [if_neg (by omega), if_neg (by omega), if_neg (by omega), if_neg (by omega), if_neg (by omega), if_neg (by omega), if_pos (by omega)] at hR
 have HR := hide hR
 clear hcell hfr h hR hbs hi
 have HC := hide (rwithin_any base N (by omega) c (unhide H) (unhide HB) (unhide HI).toIv hst)
 have HE : Hid (R = withinM m c) := by show _ = _; rw [unhide HR]
 generalize withinM m c = DM at HC HE
 clear HR hst 
 go_enter Tryz.func22, Tryz.ntmps22
 go_wp2_with fail
 refine (unhide HC).mono ?_
 rintro e w3 ⟨g3, rfl, m3, k3⟩
 have HM3 := hide m3
 have HK3 := hide k3
 clear m3 k3 HC
 go_wp2_with fail
 go_ret
 show Mp _ g P base R _ _
 rw [unhide HE]
 exact ⟨g3, rfl, unhide HM3, unhide HK3⟩
set_option maxHeartbeats 16000000 in
theorem rnx_10 (base N : Nat) (hN : N + 4 ≤ 1000000) (c : UInt8) {w : World} {g : Nat → Nat} {P : Nat} {m : Mc} {la : Option Addr} {lc : Nat} {vk vn : Int} {vt : List UInt8} {va1 : Option Addr} {vn1 vc1 : Nat} {va2 : Option Addr} {vn2 vc2 : Nat} {ta : Option Addr} {tc : Nat} {ca : Option Addr} {cc : Nat} {fs : List Value}
  (h : MS w g P base m la lc vk vn vt va1 vn1 vc1 va2 vn2 vc2 ta tc ca cc fs) (hbs : base ≤ w.heap.size) (hi : Iw N m) (hst : m.st = 10) :
  Calls Tryz.prog 22 #[.pointer (some ⟨P, 0, none⟩), .int .u8 (c.toNat : Int)] w fun e w' => Mp w g P base (nextM m c) e w' := by
 have H := hide h
 obtain ⟨hcell, hfr⟩ := h.cells
 have c0 : w.cell? ⟨P, 0, none⟩ = some (.int .i64 10) := (hcell 0 _ rfl).trans (by rw [hst]; rfl)
 have f0 := hfr 0
 have HB := hide hbs
 have HI := hide hi
 obtain ⟨R, hR⟩ : ∃ R, R = nextM m c := ⟨_, rfl⟩
 rw [← hR]
 unfold nextM at hR
 rw [if_neg (by omega), if_neg (by omega), if_neg (by omega), if_neg (by omega), if_neg (by omega), if_neg (by omega), if_neg (by omega), if_pos (by omega)] at hR
 have HR := hide hR
 clear hcell hfr h hR hbs hi
 have HC := hide (rescaped_any c (unhide H) (by have := (unhide HI).tx; omega) (unhide HB))
 have HE : Hid (R = escapedM m c) := by show _ = _; rw [unhide HR]
 generalize escapedM m c = DM at HC HE
 clear HR hst 
 go_enter Tryz.func22, Tryz.ntmps22
 go_wp2_with fail
 refine (unhide HC).mono ?_
 rintro e w3 ⟨g3, rfl, m3, k3⟩
 have HM3 := hide m3
 have HK3 := hide k3
 clear m3 k3 HC
 go_wp2_with fail
 go_ret
 show Mp _ g P base R _ _
 rw [unhide HE]
 exact ⟨g3, rfl, unhide HM3, unhide HK3⟩
set_option maxHeartbeats 16000000 in
theorem rnx_11 (base N : Nat) (hN : N + 4 ≤ 1000000) (c : UInt8) {w : World} {g : Nat → Nat} {P : Nat} {m : Mc} {la : Option Addr} {lc : Nat} {vk vn : Int} {vt : List UInt8} {va1 : Option Addr} {vn1 vc1 : Nat} {va2 : Option Addr} {vn2 vc2 : Nat} {ta : Option Addr} {tc : Nat} {ca : Option Addr} {cc : Nat} {fs : List Value}
  (h : MS w g P base m la lc vk vn vt va1 vn1 vc1 va2 vn2 vc2 ta tc ca cc fs) (hbs : base ≤ w.heap.size) (hi : Iw N m) (hst : m.st = 11) :
  Calls Tryz.prog 22 #[.pointer (some ⟨P, 0, none⟩), .int .u8 (c.toNat : Int)] w fun e w' => Mp w g P base (nextM m c) e w' := by
 have H := hide h
 obtain ⟨hcell, hfr⟩ := h.cells
 have c0 : w.cell? ⟨P, 0, none⟩ = some (.int .i64 11) := (hcell 0 _ rfl).trans (by rw [hst]; rfl)
 have f0 := hfr 0
 have HB := hide hbs
 have HI := hide hi
 obtain ⟨R, hR⟩ : ∃ R, R = nextM m c := ⟨_, rfl⟩
 rw [← hR]
 unfold nextM at hR
 rw [if_neg (by omega), if_neg (by omega), if_neg (by omega), if_neg (by omega), if_neg (by omega), if_neg (by omega), if_neg (by omega), if_neg (by omega), if_pos (by omega)] at hR
 have HR := hide hR
 clear hcell hfr h hR hbs hi
 have HC := hide (rdigitOf_any N c (unhide H) (unhide HI).toIv hst (by have := (unhide HI).tx; omega) (unhide HB))
 have HE : Hid (R = digitOfM m c) := by show _ = _; rw [unhide HR]
 generalize digitOfM m c = DM at HC HE
 clear HR hst 
 go_enter Tryz.func22, Tryz.ntmps22
 go_wp2_with fail
 refine (unhide HC).mono ?_
 rintro e w3 ⟨g3, rfl, m3, k3⟩
 have HM3 := hide m3
 have HK3 := hide k3
 clear m3 k3 HC
 go_wp2_with fail
 go_ret
 show Mp _ g P base R _ _
 rw [unhide HE]
 exact ⟨g3, rfl, unhide HM3, unhide HK3⟩
set_option maxHeartbeats 16000000 in
theorem rnx_15 (base N : Nat) (hN : N + 4 ≤ 900000) (c : UInt8) {w : World} {g : Nat → Nat} {P : Nat} {m : Mc} {la : Option Addr} {lc : Nat} {vk vn : Int} {vt : List UInt8} {va1 : Option Addr} {vn1 vc1 : Nat} {va2 : Option Addr} {vn2 vc2 : Nat} {ta : Option Addr} {tc : Nat} {ca : Option Addr} {cc : Nat} {fs : List Value}
  (h : MS w g P base m la lc vk vn vt va1 vn1 vc1 va2 vn2 vc2 ta tc ca cc fs) (hbs : base ≤ w.heap.size) (hi : Iw N m) (hst : m.st = 15) :
  Calls Tryz.prog 22 #[.pointer (some ⟨P, 0, none⟩), .int .u8 (c.toNat : Int)] w fun e w' => Mp w g P base (nextM m c) e w' := by
 have H := hide h
 obtain ⟨hcell, hfr⟩ := h.cells
 have c0 : w.cell? ⟨P, 0, none⟩ = some (.int .i64 15) := (hcell 0 _ rfl).trans (by rw [hst]; rfl)
 have f0 := hfr 0
 have HB := hide hbs
 have HI := hide hi
 obtain ⟨R, hR⟩ : ∃ R, R = nextM m c := ⟨_, rfl⟩
 rw [← hR]
 unfold nextM at hR
 rw [if_neg (by omega), if_neg (by omega), if_neg (by omega), if_neg (by omega), if_neg (by omega), if_neg (by omega), if_neg (by omega), if_neg (by omega), if_neg (by omega), if_pos (by omega)] at hR
 have HR := hide hR
 clear hcell hfr h hR hbs hi
 have HC := hide (rpart_any c (unhide H) (by have := (unhide HI).tx; omega) (by have := (unhide HI).sum hst; have := (unhide HI).ch; omega) (unhide HB))
 have HE : Hid (R = partM m c) := by show _ = _; rw [unhide HR]
 generalize partM m c = DM at HC HE
 clear HR hst 
 go_enter Tryz.func22, Tryz.ntmps22
 go_wp2_with fail
 refine (unhide HC).mono ?_
 rintro e w3 ⟨g3, rfl, m3, k3⟩
 have HM3 := hide m3
 have HK3 := hide k3
 clear m3 k3 HC
 go_wp2_with fail
 go_ret
 show Mp _ g P base R _ _
 rw [unhide HE]
 exact ⟨g3, rfl, unhide HM3, unhide HK3⟩
set_option maxHeartbeats 16000000 in
theorem rnx_12 (base N : Nat) (hN : N + 4 ≤ 1000000) (c : UInt8) {w : World} {g : Nat → Nat} {P : Nat} {m : Mc} {la : Option Addr} {lc : Nat} {vk vn : Int} {vt : List UInt8} {va1 : Option Addr} {vn1 vc1 : Nat} {va2 : Option Addr} {vn2 vc2 : Nat} {ta : Option Addr} {tc : Nat} {ca : Option Addr} {cc : Nat} {fs : List Value}
  (h : MS w g P base m la lc vk vn vt va1 vn1 vc1 va2 vn2 vc2 ta tc ca cc fs) (hbs : base ≤ w.heap.size) (hi : Iw N m) (hst : m.st = 12) :
  Calls Tryz.prog 22 #[.pointer (some ⟨P, 0, none⟩), .int .u8 (c.toNat : Int)] w fun e w' => Mp w g P base (nextM m c) e w' := by
 have H := hide h
 obtain ⟨hcell, hfr⟩ := h.cells
 have c0 : w.cell? ⟨P, 0, none⟩ = some (.int .i64 12) := (hcell 0 _ rfl).trans (by rw [hst]; rfl)
 have f0 := hfr 0
 have HB := hide hbs
 have HI := hide hi
 obtain ⟨R, hR⟩ : ∃ R, R = nextM m c := ⟨_, rfl⟩
 rw [← hR]
 unfold nextM at hR
 rw [if_neg (by omega), if_neg (by omega), if_neg (by omega), if_neg (by omega), if_neg (by omega), if_neg (by omega), if_neg (by omega), if_neg (by omega), if_neg (by omega), if_neg (by omega), if_pos (by omega)] at hR
 have HR := hide hR
 clear hcell hfr h hR hbs hi
 by_cases h92 : c = 92
 ·have u92 : ((c.toNat : Int) == 92) = true := by rw [h92]; rfl
  have HE : Hid (R = (0, { m with st := 13 })) := by show _ = _; rw [unhide HR, if_neg (by rw [h92]; decide)]
  have HF : Hid (∀ w', w' = (w.setCell ⟨P, 0, none⟩ (.int .i64 13)) → Mp w g P base (0, { m with st := 13 }) (.returned (.int .i64 0)) w') := fun w' e => by
   have mv : Mv w w' P := by rw [e]; exact Mv.set _ _ _ _
   exact (unhide H).fin0 mv rfl rfl rfl rfl (by rw [e]; exact (heap_setCell_same _ _ _ _ _ _ (unhide H).row))
  clear HR hst h92
  go_enter Tryz.func22, Tryz.ntmps22
  go_wp2_with fail
  go_ret
  show Mp _ g P base R _ _
  rw [unhide HE]
  exact unhide HF _ rfl
 ·have u92 : ((c.toNat : Int) == 92) = false := by rw [beq_eq_false_iff_ne]; exact fun e => h92 (UInt8.toNat_inj.1 (by show c.toNat = 92; omega))
  have HE : Hid (R = (40, m)) := by show _ = _; rw [unhide HR, if_pos h92]
  clear HR hst h92
  go_enter Tryz.func22, Tryz.ntmps22
  go_wp2_with fail
  go_ret
  show Mp _ g P base R _ _
  rw [unhide HE]
  exact (unhide H).fail 40 (by omega) m
set_option maxHeartbeats 16000000 in
theorem rnx_13 (base N : Nat) (hN : N + 4 ≤ 1000000) (c : UInt8) {w : World} {g : Nat → Nat} {P : Nat} {m : Mc} {la : Option Addr} {lc : Nat} {vk vn : Int} {vt : List UInt8} {va1 : Option Addr} {vn1 vc1 : Nat} {va2 : Option Addr} {vn2 vc2 : Nat} {ta : Option Addr} {tc : Nat} {ca : Option Addr} {cc : Nat} {fs : List Value}
  (h : MS w g P base m la lc vk vn vt va1 vn1 vc1 va2 vn2 vc2 ta tc ca cc fs) (hbs : base ≤ w.heap.size) (hi : Iw N m) (hst : m.st = 13) :
  Calls Tryz.prog 22 #[.pointer (some ⟨P, 0, none⟩), .int .u8 (c.toNat : Int)] w fun e w' => Mp w g P base (nextM m c) e w' := by
 have H := hide h
 obtain ⟨hcell, hfr⟩ := h.cells
 have c0 : w.cell? ⟨P, 0, none⟩ = some (.int .i64 13) := (hcell 0 _ rfl).trans (by rw [hst]; rfl)
 have f0 := hfr 0
 have c11 := hcell 11 _ rfl
 have f11 := hfr 11
 have c12 := hcell 12 _ rfl
 have f12 := hfr 12
 try dsimp only at c11
 try dsimp only at c12
 have HB := hide hbs
 have HI := hide hi
 obtain ⟨R, hR⟩ : ∃ R, R = nextM m c := ⟨_, rfl⟩
 rw [← hR]
 unfold nextM at hR
 rw [if_neg (by omega), if_neg (by omega), if_neg (by omega), if_neg (by omega), if_neg (by omega), if_neg (by omega), if_neg (by omega), if_neg (by omega), if_neg (by omega), if_neg (by omega), if_neg (by omega)] at hR
 have HR := hide hR
 clear hcell hfr h hR hbs hi
 by_cases h117 : c = 117
 ·have u117 : ((c.toNat : Int) == 117) = true := by rw [h117]; rfl
  have HE : Hid (R = (0, { m with st := 11, n := 0, many := 0 })) := by show _ = _; rw [unhide HR, if_neg (by rw [h117]; decide)]
  have HF : Hid (∀ w', w' = (((w.setCell ⟨P, 0, none⟩ (.int .i64 11)).setCell ⟨P, 11, none⟩ (.int .i64 0)).setCell ⟨P, 12, none⟩ (.int .i64 0)) → Mp w g P base (0, { m with st := 11, n := 0, many := 0 }) (.returned (.int .i64 0)) w') := fun w' e => by
   have mv : Mv w w' P := by rw [e]; exact ((Mv.set _ _ _ _).trans (Mv.set _ _ _ _)).trans (Mv.set _ _ _ _)
   exact (unhide H).fin0 mv rfl rfl rfl rfl (by rw [e]; exact (heap_setCell_same _ _ _ _ _ _ (heap_setCell_same _ _ _ _ _ _ (heap_setCell_same _ _ _ _ _ _ (unhide H).row))))
  clear HR hst h117
  go_enter Tryz.func22, Tryz.ntmps22
  go_wp2_with fail
  go_ret
  show Mp _ g P base R _ _
  rw [unhide HE]
  exact unhide HF _ rfl
 ·have u117 : ((c.toNat : Int) == 117) = false := by rw [beq_eq_false_iff_ne]; exact fun e => h117 (UInt8.toNat_inj.1 (by show c.toNat = 117; omega))
  have HE : Hid (R = (40, m)) := by show _ = _; rw [unhide HR, if_pos h117]
  clear HR hst h117
  go_enter Tryz.func22, Tryz.ntmps22
  go_wp2_with fail
  go_ret
  show Mp _ g P base R _ _
  rw [unhide HE]
  exact (unhide H).fail 40 (by omega) m
/-- next. -/
theorem rnext_any (base N : Nat) (hN : N + 4 ≤ 900000) (c : UInt8) (w : World) (g : Nat → Nat) (P : Nat) (m : Mc) (hmb : Mb w g P base m) (hbs : base ≤ w.heap.size) (hi : Iw N m) :
  Calls Tryz.prog 22 #[.pointer (some ⟨P, 0, none⟩), .int .u8 (c.toNat : Int)] w fun e w' => Mp w g P base (nextM m c) e w' := by
 obtain ⟨la, lc, vk, vn, vt, va1, vn1, vc1, va2, vn2, vc2, ta, tc, ca, cc, fs, h⟩ := hmb
 have hs := hi.st
 rcases (show m.st = 0 ∨ m.st = 1 ∨ m.st = 2 ∨ m.st = 3 ∨ m.st = 4 ∨ m.st = 5 ∨ m.st = 6 ∨ m.st = 7 ∨ m.st = 8 ∨ m.st = 9 ∨ m.st = 10 ∨ m.st = 11 ∨ m.st = 12 ∨ m.st = 13 ∨ m.st = 14 ∨ m.st = 15 by omega) with e | e | e | e | e | e | e | e | e | e | e | e | e | e | e | e
 ·exact rnx_0 base N (by omega) c h hbs hi e
 ·exact rnx_1 base N (by omega) c h hbs hi e
 ·exact rnx_2 base N (by omega) c h hbs hi e
 ·exact rnx_3 base N (by omega) c h hbs hi e
 ·exact rnx_4 base N (by omega) c h hbs hi e
 ·exact rnx_5 base N (by omega) c h hbs hi e
 ·exact rnx_6 base N (by omega) c h hbs hi e
 ·exact rnx_7 base N (by omega) c h hbs hi e
 ·exact rnx_8 base N (by omega) c h hbs hi e
 ·exact rnx_9 base N (by omega) c h hbs hi e
 ·exact rnx_10 base N (by omega) c h hbs hi e
 ·exact rnx_11 base N (by omega) c h hbs hi e
 ·exact rnx_12 base N (by omega) c h hbs hi e
 ·exact rnx_13 base N (by omega) c h hbs hi e
 ·exact rnx_14 base N (by omega) c h hbs hi e
 ·exact rnx_15 base N (by omega) c h hbs hi e
#print axioms rnext_any
end Go.Proofs.YtbnbngmnoffmkaaGreatDoor
end
section
set_option linter.unusedVariables false
set_option maxRecDepth 1000000
namespace Go.Proofs.YtbnbngmnoffmkaaGreatDoor
open Go.RowKit

def g0F (P : Nat) : Nat → Nat := fun k => if k = P then 1 else 5
theorem mb0 {W W0 : World} {P base : Nat} (hP : P = W.heap.size) (hW0 : W0 = W.alloc (.cells #[.int .i64 0, .slice none 0 0, .string ⟨#[]⟩, .int .i64 0, .int .i64 0, .string ⟨#[]⟩, .slice none 0 0, .slice none 0 0, .slice none 0 0, .bool false, .slice none 0 0, .int .i64 0, .int .i64 0, .int .i64 0, .bool false, .int .i64 0] 52)) (hb : base ≤ P) : Mb W0 (g0F P) P base mc0 := by
 refine ⟨none, 0, 0, 0, [], none, 0, 0, none, 0, 0, none, 0, none, 0, [], ?_, ?_, World.ownsRow_nil _ _ _ _, fun i o hi => by simp [mc0] at hi, OwnB.nil _ _, OwnB.nil _ _, by simp [g0F], fun k hk => by simp [blk] at hk, fun k hk => by simp [blk] at hk, fun k hk => by simp [blk] at hk, hb⟩
 ·rw [hW0, hP]; exact heap_alloc_new _ _
 ·exact jv_leaf _ _ 0 0
/-- Where the loop stands. -/
def LI (T : List UInt8) (W0 : World) (P i : Nat) (m : Mc) (wr : World) (g' : Nat → Nat) : Prop := Mb wr g' P P m ∧ Kq W0 wr (g0F P) g' (· = 5) ∧ Iw (4 * i) m ∧ runJ mc0 T = runJ m (T.drop i)
set_option maxHeartbeats 16000000 in
theorem rparse_any (T : List UInt8) (w : World) (hT : Tb4 w) :
  Calls Tryz.prog 7 #[.string (str T)] w fun e w' => PsP w T e w' := by
 have hsz : (str T).size = T.length := rfl
 by_cases hl : 65536 < T.length
 ·have hl' : (65536 : Int) < (T.length : Int) := by omega
  obtain ⟨R, hR⟩ : ∃ R, R = w.heap.size := ⟨_, rfl⟩
  obtain ⟨W, hW⟩ : ∃ W, W = w.alloc (.cells #[.int .i64 0, .int .i64 0, .string ⟨#[]⟩, .slice none 0 0, .slice none 0 0] 25) := ⟨_, rfl⟩
  have ePS : psM T = (Js.nul, 0, 4) := by unfold psM; rw [if_pos hl]
  have HhR := hide hR
  have HhW := hide hW
  have HTw := hide hT
  clear hT
  obtain ⟨r2, w9, h9, r9, HJ9, HB9, HT9⟩ := pret (unhide HhR) (unhide HhW) (unhide HTw) (Below.refl _ _) (v2 := .string ⟨#[]⟩) (JV.flat _ _ 0 0 [])
  have qq0 : W.cell? ⟨R, 0, none⟩ = some (.int .i64 0) := cell_of_row _ _ _ _ _ _ r2
  have qq1 : W.cell? ⟨R, 1, none⟩ = some (.int .i64 0) := cell_of_row _ _ _ _ _ _ r2
  have qq2 : W.cell? ⟨R, 2, none⟩ = some (.string ⟨#[]⟩) := cell_of_row _ _ _ _ _ _ r2
  have qq3 : W.cell? ⟨R, 3, none⟩ = some (.slice none 0 0) := cell_of_row _ _ _ _ _ _ r2
  have qq4 : W.cell? ⟨R, 4, none⟩ = some (.slice none 0 0) := cell_of_row _ _ _ _ _ _ r2
  have fz : ∀ j, W.frozen? ⟨R, j, none⟩ = false := fun j => frozen_of_row _ _ _ _ _ r2
  have fz0 := fz 0
  have fz1 := fz 1
  have fz2 := fz 2
  have fz3 := fz 3
  have fz4 := fz 4
  have t0 : w9.cell? ⟨R, 0, none⟩ = some (.int .i64 0) := cell_of_row _ _ _ _ _ _ r9
  have t1 : w9.cell? ⟨R, 1, none⟩ = some (.int .i64 0) := cell_of_row _ _ _ _ _ _ r9
  have t2 : w9.cell? ⟨R, 2, none⟩ = some (.string ⟨#[]⟩) := cell_of_row _ _ _ _ _ _ r9
  have t3 : w9.cell? ⟨R, 3, none⟩ = some (.slice none 0 0) := cell_of_row _ _ _ _ _ _ r9
  have t4 : w9.cell? ⟨R, 4, none⟩ = some (.slice none 0 0) := cell_of_row _ _ _ _ _ _ r9
  have HF : Hid (PsP w T (.returned (.tuple #[.agg #[.int .i64 0, .int .i64 0, .string ⟨#[]⟩, .slice none 0 0, .slice none 0 0], .int .i64 0, .int .i64 4])) w9) :=
   ⟨HB9, HT9, _, by rw [ePS]; rfl, by rw [ePS]; exact HJ9⟩
  clear r9 r2 fz HJ9 HB9 HT9
  clear ePS hl
  go_enter Tryz.func7, Tryz.ntmps7
  go_upto_region 1 with fail
  rw [← hW, ← hR]
  clear hW hR HhR HhW HTw
  go_wp2_with fail
  rw [← h9]
  clear h9
  refine ⟨rfl, _, by simp [results, Tryz.results7, go_sem, t0, t1, t2, t3, t4]; rfl, ?_⟩
  exact unhide HF
 ·have hl' : ¬ (65536 : Int) < (T.length : Int) := by omega
  have hPS : psM T = match runJ mc0 T with | .no r y => (Js.nul, T.length - r.length, y) | .ok v _ => (v, 0, 0) := by rw [← psR_eq]; unfold psR; rw [if_neg hl] <;> cases runJ mc0 T <;> rfl
  obtain ⟨R, hR⟩ : ∃ R, R = w.heap.size := ⟨_, rfl⟩
  obtain ⟨W, hW⟩ : ∃ W, W = w.alloc (.cells #[.int .i64 0, .int .i64 0, .string ⟨#[]⟩, .slice none 0 0, .slice none 0 0] 25) := ⟨_, rfl⟩
  obtain ⟨P, hP⟩ : ∃ P, P = W.heap.size := ⟨_, rfl⟩
  obtain ⟨W0, hW0⟩ : ∃ W0, W0 = W.alloc (.cells #[.int .i64 0, .slice none 0 0, .string ⟨#[]⟩, .int .i64 0, .int .i64 0, .string ⟨#[]⟩, .slice none 0 0, .slice none 0 0, .slice none 0 0, .bool false, .slice none 0 0, .int .i64 0, .int .i64 0, .int .i64 0, .bool false, .int .i64 0] 52) := ⟨_, rfl⟩
  have hPR : P = R + 1 := by rw [hP, hW, hR]; simp
  have hs0 : W0.heap.size = P + 1 := by rw [hW0, hP]; simp
  have bW0 : Below W.heap.size W W0 := by rw [hW0]; exact (Below.refl _ _).alloc (Nat.le_refl _) _
  have HL0 : Hid (LI T W0 P 0 mc0 W0 (g0F P)) := ⟨mb0 hP hW0 (Nat.le_refl _), Kq.refl _ _ _, iw0, rfl⟩
  have HBW : Hid (∀ u g', Kq W0 u (g0F P) g' (· = 5) → Below W.heap.size W u ∧ P < u.heap.size ∧ ∀ v j, JV u (Zt g' u) v j → JV u (fun k => R < k ∧ k < u.heap.size) v j) := fun u g' k => by
   refine ⟨⟨k.os.trans bW0.os, k.tape.trans bW0.tape, k.output.trans bW0.output, Nat.le_trans bW0.size k.size, fun b hb => ?_⟩, by have := k.size; omega, fun v j hj => JV.keep (fun b hb => ⟨⟨?_, hb.2⟩, rfl⟩) _ _ hj⟩
   ·exact (k.tag b (by omega) (by unfold g0F; rw [if_neg (by omega)])).2.trans (bW0.block b hb)
   ·rcases Nat.lt_or_ge R b with h | h
    ·exact h
    ·have e0 : g0F P b = 5 := by unfold g0F; rw [if_neg (by omega)]
     have := (k.tag b (by omega) e0).1
     rw [hb.1, e0] at this
     cases this
  have HhR := hide hR
  have HhW := hide hW
  have HTw := hide hT
  have HPS := hide hPS
  have HL := hide hl
  clear hT hPS hs0 bW0 hPR hl
  go_enter Tryz.func7, Tryz.ntmps7
  go_upto_region 1 with fail
  rw [← hW, ← hR]
  clear hW hR
  go_upto_region 4 with fail
  rw [← hW0, ← hP]
  clear hW0 hP
  go_wp2_with fail
  go_loopw [16] (fun v wr => ∃ (i : Nat) (m : Mc) (g' : Nat → Nat), i ≤ T.length ∧ v = .int .i64 (i : Int) ∧ Hid (LI T W0 P i m wr g')) (fun v _ => T.length - (intOf v).toNat)
  case atStart => exact ⟨0, mc0, g0F P, Nat.zero_le _, rfl, HL0⟩
  case round =>
   obtain ⟨i, m, g', hiT, rfl, HLI⟩ := hrel
   clear HL0
   obtain ⟨lm, lk, li, lr⟩ := unhide HLI
   by_cases hlt : i < T.length
   ·have hlt' : (i : Int) < (T.length : Int) := by omega
    obtain ⟨c, hc⟩ : ∃ c, T[i]? = some c := ⟨_, List.getElem?_eq_getElem hlt⟩
    have kix : ∀ u, (Instr.index 9 (.string (str T)) (.int .i64 (i : Int))).run Tryz.prog u = .ok (.int .u8 (c.toNat : Int)) u := fun u => run_ix4 u T i c hc
    have hdr : T.drop i = c :: T.drop (i + 1) := by
     obtain ⟨h1, h2⟩ := List.getElem?_eq_some_iff.1 hc
     rw [List.drop_eq_getElem_cons h1, h2]
    have hC := rnext_any P (4 * i) (by have := unhide HL; omega) c wr g' P m lm (Nat.le_of_lt (unhide HBW wr g' lk).2.1) li
    obtain ⟨⟨Y, m'⟩, hN⟩ : ∃ x : Nat × Mc, x = nextM m c := ⟨_, rfl⟩
    rw [← hN] at hC
    have HC : Hid (Calls Tryz.prog 22 #[.pointer (some ⟨P, 0, none⟩), .int .u8 (c.toNat : Int)] wr fun e w' => e = .returned (.int .i64 (Y : Int)) ∧ Hid (∃ g3, (Y = 0 → Mb w' g3 P P m') ∧ Kq wr w' g' g3 (· = 5))) := hC.mono (by rintro e w' ⟨g3, h1, h2, h3⟩; exact ⟨h1, g3, h2, h3⟩)
    have HN := hide hN
    have HDR := hide hdr
    clear hC hN hdr lm lk li lr hc
    by_cases hY : Y = 0
    ·have y0 : ((Y : Int) == 0) = true := by rw [hY]; rfl
     go_wp2_with fail
     refine (unhide HC).mono ?_
     rintro e w3 ⟨rfl, H3⟩
     have HNX : Hid (∃ g3, LI T W0 P (i + 1) m' w3 g3) := by
      obtain ⟨g3, h2, h3⟩ := unhide H3
      obtain ⟨lm, lk, li, lr⟩ := unhide HLI
      have e := unhide HN
      rw [hY] at e
      refine ⟨g3, h2 hY, lk.trans h3, ?_, ?_⟩
      ·have := iw_next li e.symm
       rw [show 4 * (i + 1) = 4 * i + 4 by omega]
       exact this
      ·rw [lr, unhide HDR]
       exact runJ_ok _ e.symm
     clear HC H3 HN HDR
     go_wp2_with fail
     go_round
     case rel =>
      obtain ⟨g3, hx⟩ := unhide HNX
      exact ⟨i + 1, m', g3, by omega, by go_num, hx⟩
     case measure => simp [intOf]; omega
    ·have y0 : ((Y : Int) == 0) = false := by rw [beq_eq_false_iff_ne]; omega
     have ePS : psM T = (Js.nul, i, Y) := by
      obtain ⟨lm, lk, li, lr⟩ := unhide HLI
      rw [unhide HPS, lr, unhide HDR, runJ_no _ (unhide HN).symm hY]
      simp only [List.length_cons, List.length_drop]
      rw [show T.length - (T.length - (i + 1) + 1) = i by omega]
     have HPE := hide ePS
     clear ePS HN HDR
     go_wp2_with fail
     refine (unhide HC).mono ?_
     rintro e w3 ⟨rfl, H3⟩
     have hb3 : Below W.heap.size W w3 := by
      obtain ⟨g3, h2, h3⟩ := unhide H3
      obtain ⟨lm, lk, li, lr⟩ := unhide HLI
      exact (unhide HBW w3 g3 (lk.trans h3)).1
     obtain ⟨r2, w9, h9, r9, HJ9, HB9, HT9⟩ := pret (unhide HhR) (unhide HhW) (unhide HTw) hb3 (v2 := .string ⟨#[]⟩) (JV.flat _ _ 0 0 [])
     have qq0 : w3.cell? ⟨R, 0, none⟩ = some (.int .i64 0) := cell_of_row _ _ _ _ _ _ r2
     have qq1 : w3.cell? ⟨R, 1, none⟩ = some (.int .i64 0) := cell_of_row _ _ _ _ _ _ r2
     have qq2 : w3.cell? ⟨R, 2, none⟩ = some (.string ⟨#[]⟩) := cell_of_row _ _ _ _ _ _ r2
     have qq3 : w3.cell? ⟨R, 3, none⟩ = some (.slice none 0 0) := cell_of_row _ _ _ _ _ _ r2
     have qq4 : w3.cell? ⟨R, 4, none⟩ = some (.slice none 0 0) := cell_of_row _ _ _ _ _ _ r2
     have fz : ∀ j, w3.frozen? ⟨R, j, none⟩ = false := fun j => frozen_of_row _ _ _ _ _ r2
     have fz0 := fz 0
     have fz1 := fz 1
     have fz2 := fz 2
     have fz3 := fz 3
     have fz4 := fz 4
     have t0 : w9.cell? ⟨R, 0, none⟩ = some (.int .i64 0) := cell_of_row _ _ _ _ _ _ r9
     have t1 : w9.cell? ⟨R, 1, none⟩ = some (.int .i64 0) := cell_of_row _ _ _ _ _ _ r9
     have t2 : w9.cell? ⟨R, 2, none⟩ = some (.string ⟨#[]⟩) := cell_of_row _ _ _ _ _ _ r9
     have t3 : w9.cell? ⟨R, 3, none⟩ = some (.slice none 0 0) := cell_of_row _ _ _ _ _ _ r9
     have t4 : w9.cell? ⟨R, 4, none⟩ = some (.slice none 0 0) := cell_of_row _ _ _ _ _ _ r9
     have HF : Hid (PsP w T (.returned (.tuple #[.agg #[.int .i64 0, .int .i64 0, .string ⟨#[]⟩, .slice none 0 0, .slice none 0 0], .int .i64 (i : Int), .int .i64 (Y : Int)])) w9) :=
      ⟨HB9, HT9, _, by rw [unhide HPE] <;> rfl, by rw [unhide HPE]; exact HJ9⟩
     clear r9 r2 fz HJ9 HB9 HT9
     clear hb3 HC H3 HLI HhR HhW HTw
     go_wp2_with fail
     rw [← h9]
     clear h9
     refine ⟨rfl, _, by simp [results, Tryz.results7, go_sem, t0, t1, t2, t3, t4]; rfl, ?_⟩
     exact unhide HF
   ·have hlt' : ¬ (i : Int) < (T.length : Int) := by omega
    obtain rfl : i = T.length := by omega
    rw [List.drop_length, runJ_nil] at lr
    obtain ⟨hbu, hPu, hJu⟩ := unhide HBW wr g' lk
    obtain ⟨la, lc, vk, vn, vt, va1, vn1, vc1, va2, vn2, vc2, ta, tc, ca, cc, fs, h⟩ := lm
    obtain ⟨hcell, hfr⟩ := h.cells
    have c0 := hcell 0 _ rfl
    have c1 := hcell 1 _ rfl
    have c3 := hcell 3 _ rfl
    have c4 := hcell 4 _ rfl
    have c5 := hcell 5 _ rfl
    have c6 := hcell 6 _ rfl
    have c7 := hcell 7 _ rfl
    have c15 := hcell 15 _ rfl
    try dsimp only at c0 c1 c3 c4 c5 c6 c7 c15
    have hJv := hJu _ _ h.jv
    have hRP : ¬ R = P := by
     intro e
     have b := hbu.block R (by rw [unhide HhW]; simp; have := unhide HhR; omega)
     rw [e, h.row, unhide HhW, ← e, unhide HhR, heap_alloc_new] at b
     simp [mcO] at b
    have hPRn : ¬ P = R := fun e => hRP e.symm
    have hns : m.st ≤ 15 := li.st
    clear hcell hfr h lk li hJu HLI
    unfold finM at lr
    obtain ⟨s, hs⟩ : ∃ s, s = m.st := ⟨_, rfl⟩
    obtain ⟨n, hn⟩ : ∃ n, n = m.num := ⟨_, rfl⟩
    rw [← hs] at lr c0 hns
    rw [← hn] at lr c15
    by_cases hl0 : m.l = []
    ·have z0 : m.l.length = 0 := by rw [hl0]; rfl
     rw [z0] at c1
     have k0 : (((0 : Nat) : Int) == 0) = true := rfl
     by_cases h7 : s = 7 ∨ s = 14
     ·have ePS : psM T = (.mk 2 n [] [] [], 0, 0) := by rw [unhide HPS, lr, if_pos ⟨hl0, h7⟩]
      have HPE := hide ePS
      clear lr ePS hJv hs hn c3 c4 c5 c6 c7
      obtain ⟨r2, w9, h9, r9, HJ9, HB9, HT9⟩ := pret (unhide HhR) (unhide HhW) (unhide HTw) hbu (v2 := .string ⟨#[]⟩) (jv_leaf wr _ 2 n)
      have qq0 : wr.cell? ⟨R, 0, none⟩ = some (.int .i64 0) := cell_of_row _ _ _ _ _ _ r2
      have qq1 : wr.cell? ⟨R, 1, none⟩ = some (.int .i64 0) := cell_of_row _ _ _ _ _ _ r2
      have qq2 : wr.cell? ⟨R, 2, none⟩ = some (.string ⟨#[]⟩) := cell_of_row _ _ _ _ _ _ r2
      have qq3 : wr.cell? ⟨R, 3, none⟩ = some (.slice none 0 0) := cell_of_row _ _ _ _ _ _ r2
      have qq4 : wr.cell? ⟨R, 4, none⟩ = some (.slice none 0 0) := cell_of_row _ _ _ _ _ _ r2
      have fz : ∀ j, wr.frozen? ⟨R, j, none⟩ = false := fun j => frozen_of_row _ _ _ _ _ r2
      have fz0 := fz 0
      have fz1 := fz 1
      have fz2 := fz 2
      have fz3 := fz 3
      have fz4 := fz 4
      have t0 : w9.cell? ⟨R, 0, none⟩ = some (.int .i64 2) := cell_of_row _ _ _ _ _ _ r9
      have t1 : w9.cell? ⟨R, 1, none⟩ = some (.int .i64 n) := cell_of_row _ _ _ _ _ _ r9
      have t2 : w9.cell? ⟨R, 2, none⟩ = some (.string ⟨#[]⟩) := cell_of_row _ _ _ _ _ _ r9
      have t3 : w9.cell? ⟨R, 3, none⟩ = some (.slice none 0 0) := cell_of_row _ _ _ _ _ _ r9
      have t4 : w9.cell? ⟨R, 4, none⟩ = some (.slice none 0 0) := cell_of_row _ _ _ _ _ _ r9
      have HF : Hid (PsP w T (.returned (.tuple #[.agg #[.int .i64 2, .int .i64 n, .string ⟨#[]⟩, .slice none 0 0, .slice none 0 0], .int .i64 0, .int .i64 0])) w9) :=
       ⟨HB9, HT9, _, by rw [unhide HPE] <;> rfl, by rw [unhide HPE]; exact HJ9⟩
      clear r9 r2 fz HJ9 HB9 HT9
      clear hbu HhR HhW HTw
      rcases h7 with h7 | h7
      ·have a7 : ((s : Int) == 7) = true := by rw [h7]; rfl
       clear h7
       go_wp2_with fail
       rw [← h9]
       clear h9
       refine ⟨rfl, _, by simp [results, Tryz.results7, go_sem, t0, t1, t2, t3, t4]; rfl, ?_⟩
       exact unhide HF
      ·have a7 : ((s : Int) == 7) = false := by rw [h7]; rfl
       have a14 : ((s : Int) == 14) = true := by rw [h7]; rfl
       clear h7
       go_wp2_with fail
       rw [← h9]
       clear h9
       refine ⟨rfl, _, by simp [results, Tryz.results7, go_sem, t0, t1, t2, t3, t4]; rfl, ?_⟩
       exact unhide HF
     ·have a7 : ((s : Int) == 7) = false := by rw [beq_eq_false_iff_ne]; omega
      have a14 : ((s : Int) == 14) = false := by rw [beq_eq_false_iff_ne]; omega
      rw [if_neg (fun e => h7 e.2)] at lr
      by_cases h5 : s = 5
      ·have a5 : ((s : Int) == 5) = true := by rw [h5]; rfl
       have ePS : psM T = (m.v, 0, 0) := by rw [unhide HPS, lr, if_neg (by rintro (e | e); exact e hl0; exact e h5)]
       have HPE := hide ePS
       clear lr ePS hs hn c15 h7 h5
       obtain ⟨r2, w9, h9, r9, HJ9, HB9, HT9⟩ := pret (unhide HhR) (unhide HhW) (unhide HTw) hbu hJv
       have qq0 : wr.cell? ⟨R, 0, none⟩ = some (.int .i64 0) := cell_of_row _ _ _ _ _ _ r2
       have qq1 : wr.cell? ⟨R, 1, none⟩ = some (.int .i64 0) := cell_of_row _ _ _ _ _ _ r2
       have qq2 : wr.cell? ⟨R, 2, none⟩ = some (.string ⟨#[]⟩) := cell_of_row _ _ _ _ _ _ r2
       have qq3 : wr.cell? ⟨R, 3, none⟩ = some (.slice none 0 0) := cell_of_row _ _ _ _ _ _ r2
       have qq4 : wr.cell? ⟨R, 4, none⟩ = some (.slice none 0 0) := cell_of_row _ _ _ _ _ _ r2
       have fz : ∀ j, wr.frozen? ⟨R, j, none⟩ = false := fun j => frozen_of_row _ _ _ _ _ r2
       have fz0 := fz 0
       have fz1 := fz 1
       have fz2 := fz 2
       have fz3 := fz 3
       have fz4 := fz 4
       have t0 : w9.cell? ⟨R, 0, none⟩ = some (.int .i64 vk) := cell_of_row _ _ _ _ _ _ r9
       have t1 : w9.cell? ⟨R, 1, none⟩ = some (.int .i64 vn) := cell_of_row _ _ _ _ _ _ r9
       have t2 : w9.cell? ⟨R, 2, none⟩ = some (.string (str vt)) := cell_of_row _ _ _ _ _ _ r9
       have t3 : w9.cell? ⟨R, 3, none⟩ = some (.slice va1 vn1 vc1) := cell_of_row _ _ _ _ _ _ r9
       have t4 : w9.cell? ⟨R, 4, none⟩ = some (.slice va2 vn2 vc2) := cell_of_row _ _ _ _ _ _ r9
       have HF : Hid (PsP w T (.returned (.tuple #[.agg #[.int .i64 vk, .int .i64 vn, .string (str vt), .slice va1 vn1 vc1, .slice va2 vn2 vc2], .int .i64 0, .int .i64 0])) w9) :=
        ⟨HB9, HT9, _, by rw [unhide HPE] <;> rfl, by rw [unhide HPE]; exact HJ9⟩
       clear r9 r2 fz HJ9 HB9 HT9
       clear hbu HhR HhW HTw hJv
       go_wp2_with fail
       rw [← h9]
       clear h9
       refine ⟨rfl, _, by simp [results, Tryz.results7, go_sem, t0, t1, t2, t3, t4]; rfl, ?_⟩
       exact unhide HF
      ·have a5 : ((s : Int) == 5) = false := by rw [beq_eq_false_iff_ne]; omega
       have ePS : psM T = (Js.nul, T.length, 40) := by rw [unhide HPS, lr, if_pos (.inr h5)]; rfl
       have HPE := hide ePS
       clear lr ePS hs hn c15 h7 h5 hJv c3 c4 c5 c6 c7
       obtain ⟨r2, w9, h9, r9, HJ9, HB9, HT9⟩ := pret (unhide HhR) (unhide HhW) (unhide HTw) hbu (v2 := .string ⟨#[]⟩) (JV.flat _ _ 0 0 [])
       have qq0 : wr.cell? ⟨R, 0, none⟩ = some (.int .i64 0) := cell_of_row _ _ _ _ _ _ r2
       have qq1 : wr.cell? ⟨R, 1, none⟩ = some (.int .i64 0) := cell_of_row _ _ _ _ _ _ r2
       have qq2 : wr.cell? ⟨R, 2, none⟩ = some (.string ⟨#[]⟩) := cell_of_row _ _ _ _ _ _ r2
       have qq3 : wr.cell? ⟨R, 3, none⟩ = some (.slice none 0 0) := cell_of_row _ _ _ _ _ _ r2
       have qq4 : wr.cell? ⟨R, 4, none⟩ = some (.slice none 0 0) := cell_of_row _ _ _ _ _ _ r2
       have fz : ∀ j, wr.frozen? ⟨R, j, none⟩ = false := fun j => frozen_of_row _ _ _ _ _ r2
       have fz0 := fz 0
       have fz1 := fz 1
       have fz2 := fz 2
       have fz3 := fz 3
       have fz4 := fz 4
       have t0 : w9.cell? ⟨R, 0, none⟩ = some (.int .i64 0) := cell_of_row _ _ _ _ _ _ r9
       have t1 : w9.cell? ⟨R, 1, none⟩ = some (.int .i64 0) := cell_of_row _ _ _ _ _ _ r9
       have t2 : w9.cell? ⟨R, 2, none⟩ = some (.string ⟨#[]⟩) := cell_of_row _ _ _ _ _ _ r9
       have t3 : w9.cell? ⟨R, 3, none⟩ = some (.slice none 0 0) := cell_of_row _ _ _ _ _ _ r9
       have t4 : w9.cell? ⟨R, 4, none⟩ = some (.slice none 0 0) := cell_of_row _ _ _ _ _ _ r9
       have HF : Hid (PsP w T (.returned (.tuple #[.agg #[.int .i64 0, .int .i64 0, .string ⟨#[]⟩, .slice none 0 0, .slice none 0 0], .int .i64 (T.length : Int), .int .i64 40])) w9) :=
        ⟨HB9, HT9, _, by rw [unhide HPE] <;> rfl, by rw [unhide HPE]; exact HJ9⟩
       clear r9 r2 fz HJ9 HB9 HT9
       clear hbu HhR HhW HTw
       go_wp2_with fail
       rw [← h9]
       clear h9
       refine ⟨rfl, _, by simp [results, Tryz.results7, go_sem, t0, t1, t2, t3, t4]; rfl, ?_⟩
       exact unhide HF
    ·have hp : 0 < m.l.length := List.length_pos_iff.2 hl0
     obtain ⟨q, hq⟩ : ∃ q, q = m.l.length := ⟨_, rfl⟩
     rw [← hq] at c1 hp
     have k0 : ((q : Int) == 0) = false := by rw [beq_eq_false_iff_ne]; omega
     have k1 : (0 : Int) < (q : Int) := by omega
     have ePS : psM T = (Js.nul, T.length, 40) := by rw [unhide HPS, lr, if_neg (fun e => hl0 e.1), if_pos (.inl hl0)]; rfl
     have HPE := hide ePS
     clear lr ePS hs hn hJv c0 c3 c4 c5 c6 c7 c15 hl0 hq
     obtain ⟨r2, w9, h9, r9, HJ9, HB9, HT9⟩ := pret (unhide HhR) (unhide HhW) (unhide HTw) hbu (v2 := .string ⟨#[]⟩) (JV.flat _ _ 0 0 [])
     have qq0 : wr.cell? ⟨R, 0, none⟩ = some (.int .i64 0) := cell_of_row _ _ _ _ _ _ r2
     have qq1 : wr.cell? ⟨R, 1, none⟩ = some (.int .i64 0) := cell_of_row _ _ _ _ _ _ r2
     have qq2 : wr.cell? ⟨R, 2, none⟩ = some (.string ⟨#[]⟩) := cell_of_row _ _ _ _ _ _ r2
     have qq3 : wr.cell? ⟨R, 3, none⟩ = some (.slice none 0 0) := cell_of_row _ _ _ _ _ _ r2
     have qq4 : wr.cell? ⟨R, 4, none⟩ = some (.slice none 0 0) := cell_of_row _ _ _ _ _ _ r2
     have fz : ∀ j, wr.frozen? ⟨R, j, none⟩ = false := fun j => frozen_of_row _ _ _ _ _ r2
     have fz0 := fz 0
     have fz1 := fz 1
     have fz2 := fz 2
     have fz3 := fz 3
     have fz4 := fz 4
     have t0 : w9.cell? ⟨R, 0, none⟩ = some (.int .i64 0) := cell_of_row _ _ _ _ _ _ r9
     have t1 : w9.cell? ⟨R, 1, none⟩ = some (.int .i64 0) := cell_of_row _ _ _ _ _ _ r9
     have t2 : w9.cell? ⟨R, 2, none⟩ = some (.string ⟨#[]⟩) := cell_of_row _ _ _ _ _ _ r9
     have t3 : w9.cell? ⟨R, 3, none⟩ = some (.slice none 0 0) := cell_of_row _ _ _ _ _ _ r9
     have t4 : w9.cell? ⟨R, 4, none⟩ = some (.slice none 0 0) := cell_of_row _ _ _ _ _ _ r9
     have HF : Hid (PsP w T (.returned (.tuple #[.agg #[.int .i64 0, .int .i64 0, .string ⟨#[]⟩, .slice none 0 0, .slice none 0 0], .int .i64 (T.length : Int), .int .i64 40])) w9) :=
      ⟨HB9, HT9, _, by rw [unhide HPE] <;> rfl, by rw [unhide HPE]; exact HJ9⟩
     clear r9 r2 fz HJ9 HB9 HT9
     clear hbu HhR HhW HTw
     go_wp2_with fail
     rw [← h9]
     clear h9
     refine ⟨rfl, _, by simp [results, Tryz.results7, go_sem, t0, t1, t2, t3, t4]; rfl, ?_⟩
     exact unhide HF
#print axioms rparse_any
end Go.Proofs.YtbnbngmnoffmkaaGreatDoor
end
