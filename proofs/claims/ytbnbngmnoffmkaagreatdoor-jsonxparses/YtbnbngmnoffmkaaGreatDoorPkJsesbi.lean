/-
  jsonx: the document's begins: is it the beginning of a character's bytes?; jsonx: the document's machine in memory.; jsonx: the document's machine: blanks, hexadecimal digits, a digit more.; jsonx: the document's machine: a character into the text.; jsonx: the document's machine: the last open one changes.
-/
import Derived.Test.YtbnbngmnoffmkaaGreatDoorPkJsesaw
import Derived.Test.YtbnbngmnoffmkaaGreatDoorPkJsesbh
import Derived.Test.YtbnbngmnoffmkaaGreatDoorPkJsesav
import Derived.Test.YtbnbngmnoffmkaaGreatDoorPkJsesax
import Derived.Test.YtbnbngmnoffmkaaGreatDoorPkJsesat
import Derived.Test.YtbnbngmnoffmkaaGreatDoorPkJsesaj
section
set_option linter.unusedVariables false
set_option maxRecDepth 1000000
namespace Go.Proofs.YtbnbngmnoffmkaaGreatDoor
open Go.RowKit

def L6 : List UInt8 := [128, 144, 160, 143, 159, 191]
def L3 : List UInt8 := [128, 144, 160]
def dd (c : UInt8) : List (List UInt8) := [[c, 128], [c, 128, 128]]
def sixB (m : List UInt8) : Bool := L6.any fun c => decide (chr (m ++ [c]) = none)
def twoB (b : List UInt8) : Bool := L3.any fun c => decide (chr (b ++ [c, 128]) = none) || decide (chr (b ++ [c, 128, 128]) = none)
def fndB (b : List UInt8) : Nat → Bool
 | 0 => false
 | r + 1 => fndB b r || (sixB (b ++ List.replicate r 128) || (decide (b.length = 1 ∧ r = 0) && twoB b))
theorem fnd_beg (b : List UInt8) : fndB b 3 = begB b := by
 have e : begB b = (sixB b || (decide (b.length = 1) && twoB b) || sixB (b ++ [128]) || sixB (b ++ [128] ++ [128])) := rfl
 rw [e]
 simp [fndB, List.replicate, Bool.or_assoc]
theorem fnd_mono (b : List UInt8) {r : Nat} (h : fndB b r = true) (hr : r ≤ 3) : begB b = true := by
 rw [← fnd_beg]
 have key : ∀ k, fndB b (r + k) = true := by
  intro k
  induction k with
  | zero => exact h
  | succ k ih => show (fndB b (r + k) || _) = true; rw [ih, Bool.true_or]
 have := key (3 - r)
 rwa [show r + (3 - r) = 3 by omega] at this
theorem six_true {m : List UInt8} {c : UInt8} (hc : c ∈ L6) (h : chr (m ++ [c]) = none) : sixB m = true := List.any_eq_true.2 ⟨c, hc, decide_eq_true h⟩
theorem six_false {m : List UInt8} (h : ∀ c ∈ L6, chr (m ++ [c]) ≠ none) : sixB m = false := by
 unfold sixB
 rw [List.any_eq_false]
 intro c hc
 simpa using h c hc
theorem two_true {b d : List UInt8} {c : UInt8} (hc : c ∈ L3) (hd : d ∈ dd c) (h : chr (b ++ d) = none) : twoB b = true := by
 refine List.any_eq_true.2 ⟨c, hc, ?_⟩
 simp only [dd, List.mem_cons, List.not_mem_nil, or_false] at hd
 rcases hd with rfl | rfl
 ·rw [decide_eq_true h, Bool.true_or]
 ·rw [decide_eq_true h, Bool.or_true]
theorem two_false {b : List UInt8} (h : ∀ c ∈ L3, ∀ d ∈ dd c, chr (b ++ d) ≠ none) : twoB b = false := by
 unfold twoB
 rw [List.any_eq_false]
 intro c hc
 have h1 := h c hc [c, 128] (by simp [dd])
 have h2 := h c hc [c, 128, 128] (by simp [dd])
 simp [h1, h2]
set_option maxHeartbeats 16000000 in
theorem rbegins_any (a : Option Addr) (cap : Nat) (b : List UInt8) (w : World) (hB : Bs w a cap b) (hl : b.length ≤ 1000000) :
  Calls Tryz.prog 81 #[.slice a b.length cap] w fun e w' => e = .returned (.bool (begB b)) ∧ Hid (Below w.heap.size w w') := by
 have HBS : Hid (∀ u, Below w.heap.size w u → Bs u a cap b) := fun u hu => hB.below hu (Nat.le_refl _)
 obtain ⟨RES, hRES⟩ : ∃ RES, RES = begB b := ⟨_, rfl⟩
 rw [← hRES]
 have HRES := hide hRES
 have HEm : Hid (OwnB (w.alloc (.cells #[] 5)) w.heap.size (some ⟨w.heap.size, 0, none⟩) 0 []) := own_empty w _ (Nat.le_refl _)
 have HSx := hide (hB.row.alloc (.cells #[] 5))
 have HSz := hide hB.nz
 have HLn : Hid (([] : List UInt8).length + b.length ≤ 140737488355328) := by show 0 + _ ≤ _; omega
 have HBa : Hid (w.heap.size ≤ (w.alloc (.cells #[] 5)).heap.size) := by show _ ≤ _; simp
 clear hB hRES
 go_enter Tryz.func81, Tryz.ntmps81
 go_wp2_with (at_builtin; refine wp_app _ rfl _ _ rfl w.heap.size (some ⟨w.heap.size, 0, none⟩) 0 [] rfl (unhide HEm) a cap b _ rfl rfl (unhide HSx) (unhide HSz) (unhide HLn) (unhide HBa) ?_)
 intro a0 c0 mo0 w0 hr0 ho0 hg0
 have HB0 : Hid (Below w.heap.size w w0) := below_grown (a := some ⟨w.heap.size, 0, none⟩) ((Below.refl _ _).alloc (Nat.le_refl _) _) hg0 (Nat.le_refl _) (fun k hk => by simp [blk] at hk; omega)
 have HR0 : Hid (mo0 = b ++ List.replicate 0 128) := by show _ = _; rw [unhide hr0]; simp
 have HO0 := hide ho0
 clear hr0 ho0 hg0 HEm HSx HSz HLn HBa
 go_wp2_with fail
 go_loopw [13, 3] (fun v s wr => ∃ (r : Nat) (a3 : Option Addr) (c3 : Nat) (mo : List UInt8), r ≤ 3 ∧ v = .int .i64 (r : Int) ∧ s = .slice a3 mo.length c3 ∧ mo.length ≤ 1000003 ∧ Hid (mo = b ++ List.replicate r 128) ∧ Hid (OwnB wr w.heap.size a3 c3 mo) ∧ Hid (fndB b r = false) ∧ Hid (Below w.heap.size w wr)) (fun v _ _ => 3 - (intOf v).toNat)
 case atStart => exact ⟨0, a0, c0, mo0, by omega, rfl, rfl, by rw [unhide HR0]; simp; omega, HR0, HO0, rfl, HB0⟩
 case round =>
  clear HB0 HR0 HO0
  obtain ⟨r, a3, c3, mo, hr, rfl, rfl, hml, HMO, HOM, HFN, HBW⟩ := hrel
  by_cases hlt : r < 3
  ·have hlt' : (r : Int) < 3 := by omega
   obtain ⟨V6, hV6⟩ : ∃ V6, V6 = wr.heap.size := ⟨_, rfl⟩
   obtain ⟨U, hU⟩ : ∃ U, U = wr.alloc (.cells #[.int .u8 128, .int .u8 144, .int .u8 160, .int .u8 143, .int .u8 159, .int .u8 191] 5) := ⟨_, rfl⟩
   have bU : Below w.heap.size w U := by rw [hU]; exact (unhide HBW).alloc (unhide HBW).size _
   have HRL : Hid (Row U (some ⟨V6, 0, none⟩) L6) := by show Row _ _ _; rw [hU, hV6]; exact litR wr _ L6 (0, 0) rfl
   have HOU : Hid (OwnB U w.heap.size a3 c3 mo) := by show OwnB _ _ _ _ _; rw [hU]; exact (unhide HOM).alloc _
   have HWU := hide bU
   clear bU HOM HBW
   go_wp2_with fail
   rw [← hU, ← hV6]
   clear hU hV6
   go_loopw [17] (fun v wr => ∃ i : Nat, i ≤ 6 ∧ v = .int .i64 (i : Int) ∧ Hid (∀ c ∈ L6.take i, chr (mo ++ [c]) ≠ none) ∧ Hid (Below U.heap.size U wr)) (fun v _ => 6 - (intOf v).toNat)
   case atStart => exact ⟨0, by omega, rfl, fun c hc => by simp at hc, Below.refl _ _⟩
   case round =>
    obtain ⟨i, hi, rfl, HNO, HBU⟩ := hrel
    by_cases hli : i < 6
    ·have hli' : (i : Int) < 6 := by omega
     obtain ⟨cc, hcc⟩ : ∃ cc, L6[i]? = some cc := ⟨_, List.getElem?_eq_getElem (by show i < 6; omega)⟩
     have HWB : Hid (Below w.heap.size w wr) := (unhide HWU).trans ((unhide HBU).mono (unhide HWU).size)
     have zc : wr.cell? ⟨V6, i, none⟩ = some (.int .u8 (cc.toNat : Int)) := by
      obtain ⟨B, off, e, hc⟩ := ((unhide HRL).below (unhide HBU) (Nat.le_refl _)) (by simp [L6])
      obtain ⟨rfl, rfl⟩ : V6 = B ∧ 0 = off := by simpa using e
      have := hc i (by show i < 6; omega)
      rw [Nat.zero_add, List.getD_eq_getElem?_getD, hcc] at this
      exact this
     have HCC := hide hcc
     have HOX : Hid (OwnB wr w.heap.size a3 c3 mo) := (unhide HOU).below (unhide HBU) (Nat.le_refl _)
     clear hcc
     have HEm : Hid (OwnB (wr.alloc (.cells #[] 5)) wr.heap.size (some ⟨wr.heap.size, 0, none⟩) 0 []) := own_empty wr _ (Nat.le_refl _)
     have HSx := hide (((unhide HOX).toBs).row.alloc (.cells #[] 5))
     have HSz := hide (((unhide HOX).toBs).nz)
     have HLn : Hid (([] : List UInt8).length + mo.length ≤ 140737488355328) := by show 0 + _ ≤ _; omega
     have HBa : Hid (wr.heap.size ≤ (wr.alloc (.cells #[] 5)).heap.size) := by show _ ≤ _; simp
     go_wp2_with (at_builtin; refine wp_app _ rfl _ _ rfl wr.heap.size (some ⟨wr.heap.size, 0, none⟩) 0 [] rfl (unhide HEm) a3 c3 mo _ rfl rfl (unhide HSx) (unhide HSz) (unhide HLn) (unhide HBa) ?_)
     intro a1 c1 r1 w1 hr1 ho1 hg1
     have HB1 : Hid (Below wr.heap.size wr w1) := below_grown (a := some ⟨wr.heap.size, 0, none⟩) ((Below.refl _ _).alloc (Nat.le_refl _) _) hg1 (Nat.le_refl _) (fun k hk => by simp [blk] at hk; omega)
     have HR1 : Hid (r1 = mo) := by show _ = _; simpa using unhide hr1
     have HO1 := hide ho1
     have hl1 : r1.length = mo.length := by rw [unhide HR1]
     have HL1 := hide hl1
     clear hr1 ho1 hg1 HEm HSx HSz HLn HBa hl1
     have HO1a : Hid (OwnB (w1.alloc (.cells #[.int .u8 (cc.toNat : Int)] 5)) wr.heap.size a1 c1 r1) := (unhide HO1).alloc _
     have HLr : Hid (Row (w1.alloc (.cells #[.int .u8 (cc.toNat : Int)] 5)) (some ⟨w1.heap.size, 0, none⟩) [cc]) := litR w1 _ [cc] (0, 0) rfl
     have HLn : Hid (r1.length + [cc].length ≤ 140737488355328) := by show _ ≤ _; rw [unhide HL1]; simp; omega
     have HBa : Hid (wr.heap.size ≤ (w1.alloc (.cells #[.int .u8 (cc.toNat : Int)] 5)).heap.size) := by have := (unhide HB1).size; show _ ≤ _; simp; omega
     go_wp2_with (at_builtin; refine wp_app _ rfl _ _ rfl wr.heap.size a1 c1 r1 rfl (unhide HO1a) (some ⟨w1.heap.size, 0, none⟩) 1 [cc] 1 rfl rfl (unhide HLr) (fun h => by cases h) (unhide HLn) (unhide HBa) ?_)
     intro a2 c2 r2 w2 hr2 ho2 hg2
     have HB2 : Hid (Below wr.heap.size wr w2) := below_grown (a := a1) ((unhide HB1).alloc (unhide HB1).size _) hg2 (Nat.le_refl _) (fun k hk => ((unhide HO1).lt k hk).1)
     have HR2 : Hid (r2 = mo ++ [cc]) := by show _ = _; rw [unhide hr2, unhide HR1]
     have hl2 : r2.length ≤ 50000000 := by rw [unhide HR2, List.length_append]; simp; omega
     have HCh := hide (rchars_any says4 a2 r2.length c2 r2 w2 ho2.toBs rfl hl2)
     clear hr2 ho2 hg2 hl2 HO1 HB1 HR1 HL1 HLr HLn HBa HO1a
     go_wp2_with fail
     refine (unhide HCh).mono ?_
     rintro e w3 ⟨rfl, hb3⟩
     have HB3 : Hid (Below wr.heap.size wr w3) := (unhide HB2).trans (hb3.mono (unhide HB2).size)
     clear HCh hb3 HB2
     by_cases hch : chr r2 = none
     ·have hneg := (ch_neg r2).2 hch
      generalize chI r2 = X at hneg
      have HRT : Hid (RES = true) := by
       show _ = _
       rw [unhide HR2] at hch
       rw [unhide HRES]; exact fnd_mono b (r := r + 1) (by show (fndB b r || _) = true; rw [← unhide HMO, six_true (List.mem_of_getElem? (unhide HCC)) hch]; simp) (by omega)
      have HF : Hid (Below w.heap.size w w3) := (unhide HWB).trans ((unhide HB3).mono (unhide HWB).size)
      clear hch
      go_wp2_with fail
      go_ret
      rw [unhide HRT]
      exact ⟨rfl, HF⟩
     ·have hneg := fun h => hch ((ch_neg r2).1 h)
      have hnb : ¬ chI r2 < 0 := hneg
      rw [unhide HR2] at hch
      generalize chI r2 = X at hnb
      clear hneg
      have HN1 : Hid (∀ c ∈ L6.take (i + 1), chr (mo ++ [c]) ≠ none) := fun c hc => by
       rw [List.take_add_one, unhide HCC] at hc
       rcases List.mem_append.1 hc with h | h
       ·exact unhide HNO c h
       ·obtain rfl : c = cc := by simpa using h
        exact hch
      have HB4 : Hid (Below U.heap.size U w3) := (unhide HBU).trans ((unhide HB3).mono (unhide HBU).size)
      clear hch HR2 zc
      go_wp2_with fail
      go_roundw
      case rel => exact ⟨i + 1, by omega, by go_num, HN1, HB4⟩
      case measure => simp [intOf]; omega
    ·have hli' : ¬ (i : Int) < 6 := by omega
     obtain rfl : i = 6 := by omega
     have HSX : Hid (sixB mo = false) := six_false (unhide HNO)
     have HWB : Hid (Below w.heap.size w wr) := (unhide HWU).trans ((unhide HBU).mono (unhide HWU).size)
     have HOX : Hid (OwnB wr w.heap.size a3 c3 mo) := (unhide HOU).below (unhide HBU) (Nat.le_refl _)
     clear HNO hi HRL HOU HWU HBU
     by_cases hone : b.length = 1 ∧ r = 0
     ·have HONE := hide hone
      have o1 : ((b.length : Int) == 1) = true := by rw [hone.1]; rfl
      have o2 : ((mo.length : Int) == 1) = true := by rw [unhide HMO, hone.2]; simp [hone.1]
      obtain ⟨V3, hV3⟩ : ∃ V3, V3 = wr.heap.size := ⟨_, rfl⟩
      obtain ⟨U3, hU3⟩ : ∃ U3, U3 = wr.alloc (.cells #[.int .u8 128, .int .u8 144, .int .u8 160] 5) := ⟨_, rfl⟩
      have bU : Below w.heap.size w U3 := by rw [hU3]; exact (unhide HWB).alloc (unhide HWB).size _
      have HRL : Hid (Row U3 (some ⟨V3, 0, none⟩) L3) := by show Row _ _ _; rw [hU3, hV3]; exact litR wr _ L3 (0, 0) rfl
      have HOU : Hid (OwnB U3 w.heap.size a3 c3 mo) := by show OwnB _ _ _ _ _; rw [hU3]; exact (unhide HOX).alloc _
      have HWU := hide bU
      clear bU HOX HWB hone
      go_wp2_with fail
      rw [← hU3, ← hV3]
      clear hU3 hV3 o1 o2
      go_loopw [40] (fun v wr => ∃ i : Nat, i ≤ 3 ∧ v = .int .i64 (i : Int) ∧ Hid (∀ c ∈ L3.take i, ∀ d ∈ dd c, chr (b ++ d) ≠ none) ∧ Hid (Below U3.heap.size U3 wr)) (fun v _ => 3 - (intOf v).toNat)
      case atStart => exact ⟨0, by omega, rfl, fun c hc => by simp at hc, Below.refl _ _⟩
      case round =>
       obtain ⟨i, hi, rfl, HNO, HBU⟩ := hrel
       by_cases hli : i < 3
       ·have hli' : (i : Int) < 3 := by omega
        obtain ⟨cc, hcc⟩ : ∃ cc, L3[i]? = some cc := ⟨_, List.getElem?_eq_getElem (by show i < 3; omega)⟩
        have HWB : Hid (Below w.heap.size w wr) := (unhide HWU).trans ((unhide HBU).mono (unhide HWU).size)
        have zc : wr.cell? ⟨V3, i, none⟩ = some (.int .u8 (cc.toNat : Int)) := by
         obtain ⟨B, off, e, hc⟩ := ((unhide HRL).below (unhide HBU) (Nat.le_refl _)) (by simp [L3])
         obtain ⟨rfl, rfl⟩ : V3 = B ∧ 0 = off := by simpa using e
         have := hc i (by show i < 3; omega)
         rw [Nat.zero_add, List.getD_eq_getElem?_getD, hcc] at this
         exact this
        have HCC := hide hcc
        obtain ⟨D1, hD1⟩ : ∃ D1, D1 = wr.heap.size := ⟨_, rfl⟩
        obtain ⟨D2, hD2⟩ : ∃ D2, D2 = wr.heap.size + 1 := ⟨_, rfl⟩
        obtain ⟨D3, hD3⟩ : ∃ D3, D3 = wr.heap.size + 1 + 1 := ⟨_, rfl⟩
        obtain ⟨E1, hE1⟩ : ∃ E1, E1 = wr.alloc (.cells #[.int .u8 (cc.toNat : Int), .int .u8 128] 5) := ⟨_, rfl⟩
        obtain ⟨E2, hE2⟩ : ∃ E2, E2 = E1.alloc (.cells #[.int .u8 (cc.toNat : Int), .int .u8 128, .int .u8 128] 5) := ⟨_, rfl⟩
        obtain ⟨E3, hE3⟩ : ∃ E3, E3 = E2.alloc (.cells #[.slice (some ⟨D1, 0, none⟩) 2 2, .slice (some ⟨D2, 0, none⟩) 3 3] 50) := ⟨_, rfl⟩
        have s1 : E1.heap.size = wr.heap.size + 1 := by rw [hE1]; simp
        have s2 : E2.heap.size = wr.heap.size + 1 + 1 := by rw [hE2]; simp [s1]
        have b1 : Below wr.heap.size wr E1 := by rw [hE1]; exact (Below.refl _ _).alloc (Nat.le_refl _) _
        have b2 : Below E1.heap.size E1 E2 := by rw [hE2]; exact (Below.refl _ _).alloc (Nat.le_refl _) _
        have b3 : Below E2.heap.size E2 E3 := by rw [hE3]; exact (Below.refl _ _).alloc (Nat.le_refl _) _
        have HD1 : Hid (Row E3 (some ⟨D1, 0, none⟩) [cc, 128]) := by
         have : Row E1 (some ⟨D1, 0, none⟩) [cc, 128] := by rw [hE1, hD1]; exact litR wr _ [cc, 128] (0, 0) rfl
         exact (this.below b2 (Nat.le_refl _)).below b3 (Nat.le_refl _)
        have HD2 : Hid (Row E3 (some ⟨D2, 0, none⟩) [cc, 128, 128]) := by
         have : Row E2 (some ⟨D2, 0, none⟩) [cc, 128, 128] := by rw [hE2, hD2, ← s1]; exact litR E1 _ [cc, 128, 128] (0, 0) rfl
         exact this.below b3 (Nat.le_refl _)
        have HD3 : Hid (E3.heap[D3]? = some (.cells #[.slice (some ⟨D1, 0, none⟩) 2 2, .slice (some ⟨D2, 0, none⟩) 3 3] 50 (0, 0))) := by
         show _ = _
         rw [hE3, hD3, ← s2]; exact heap_alloc_new _ _
        have HWE : Hid (Below w.heap.size w E3) := ((unhide HWB).trans ((b1.trans ((b2.trans (b3.mono b2.size)).mono b1.size)).mono (unhide HWB).size))
        have HUE : Hid (Below U3.heap.size U3 E3) := ((unhide HBU).trans ((b1.trans ((b2.trans (b3.mono b2.size)).mono b1.size)).mono (unhide HBU).size))
        have HE : Hid (E3 = ((wr.alloc (.cells #[.int .u8 (cc.toNat : Int), .int .u8 128] 5)).alloc (.cells #[.int .u8 (cc.toNat : Int), .int .u8 128, .int .u8 128] 5)).alloc (.cells #[.slice (some ⟨wr.heap.size, 0, none⟩) 2 2, .slice (some ⟨wr.heap.size + 1, 0, none⟩) 3 3] 50)) := by show _ = _; rw [hE3, hE2, hE1, hD1, hD2]
        have HDD := hide (show D3 = wr.heap.size + 1 + 1 from hD3)
        clear hD1 hD2 hD3 hE1 hE2 hE3 s1 s2 b1 b2 b3 HWB HBU
        go_wp2_with fail
        rw [← unhide HE, ← unhide HDD]
        clear HE HDD zc
        go_loopw [50] (fun v wr => ∃ k : Nat, k ≤ 2 ∧ v = .int .i64 (k : Int) ∧ Hid (∀ d ∈ (dd cc).take k, chr (b ++ d) ≠ none) ∧ Hid (Below E3.heap.size E3 wr)) (fun v _ => 2 - (intOf v).toNat)
        case atStart => exact ⟨0, by omega, rfl, fun c hc => by simp at hc, Below.refl _ _⟩
        case round =>
         obtain ⟨k, hk, rfl, HNK, HBE⟩ := hrel
         by_cases hlk : k < 2
         ·have hlk' : (k : Int) < 2 := by omega
          have HWB : Hid (Below w.heap.size w wr) := (unhide HWE).trans ((unhide HBE).mono (unhide HWE).size)
          have HBb : Hid (Bs wr a cap b) := unhide HBS wr (unhide HWB)
          have hrow3 := ((unhide HBE).block D3 (Array.getElem?_eq_some_iff.1 (unhide HD3)).1).trans (unhide HD3)
          obtain ⟨dl, hdl, DX, nx, hnx, zk, HDX⟩ : ∃ dl, (dd cc)[k]? = some dl ∧ ∃ DX nx, nx = dl.length ∧ wr.cell? ⟨D3, k, none⟩ = some (.slice (some ⟨DX, 0, none⟩) nx nx) ∧ Hid (Row wr (some ⟨DX, 0, none⟩) dl) := by
           have hk2 : k = 0 ∨ k = 1 := by omega
           rcases hk2 with rfl | rfl
           ·exact ⟨_, rfl, D1, 2, rfl, cell_of_row _ _ _ _ _ _ hrow3, (unhide HD1).below (unhide HBE) (Nat.le_refl _)⟩
           ·exact ⟨_, rfl, D2, 3, rfl, cell_of_row _ _ _ _ _ _ hrow3, (unhide HD2).below (unhide HBE) (Nat.le_refl _)⟩
          have HDL := hide hdl
          have hdl3 : dl.length ≤ 3 := by
           have hm := List.mem_of_getElem? hdl
           simp only [dd, List.mem_cons, List.not_mem_nil, or_false] at hm
           rcases hm with rfl | rfl <;> simp
          subst hnx
          clear hdl hrow3
          have HEmk : Hid (OwnB (wr.alloc (.cells #[] 5)) wr.heap.size (some ⟨wr.heap.size, 0, none⟩) 0 []) := own_empty wr _ (Nat.le_refl _)
          have HSxk := hide ((unhide HBb).row.alloc (.cells #[] 5))
          have HSzk := hide ((unhide HBb).nz)
          have HLnk : Hid (([] : List UInt8).length + b.length ≤ 140737488355328) := by show 0 + _ ≤ _; omega
          have HBak : Hid (wr.heap.size ≤ (wr.alloc (.cells #[] 5)).heap.size) := by show _ ≤ _; simp
          go_wp2_with (at_builtin; refine wp_app _ rfl _ _ rfl wr.heap.size (some ⟨wr.heap.size, 0, none⟩) 0 [] rfl (unhide HEmk) a cap b _ rfl rfl (unhide HSxk) (unhide HSzk) (unhide HLnk) (unhide HBak) ?_)
          intro a1 c1 r1 w1 hr1 ho1 hg1
          have HB1 : Hid (Below wr.heap.size wr w1) := below_grown (a := some ⟨wr.heap.size, 0, none⟩) ((Below.refl _ _).alloc (Nat.le_refl _) _) hg1 (Nat.le_refl _) (fun k hk => by simp [blk] at hk; omega)
          have HR1 : Hid (r1 = b) := by show _ = _; simpa using unhide hr1
          have HO1 := hide ho1
          have hl1 : r1.length = b.length := by rw [unhide HR1]
          have HL1 := hide hl1
          clear hr1 ho1 hg1 HEmk HSxk HSzk HLnk HBak hl1
          have HLr := hide ((unhide HDX).below (unhide HB1) (Nat.le_refl _))
          have HLn : Hid (r1.length + dl.length ≤ 140737488355328) := by show _ ≤ _; rw [unhide HL1]; omega
          have HBa : Hid (wr.heap.size ≤ w1.heap.size) := (unhide HB1).size
          go_wp2_with (at_builtin; refine wp_app _ rfl _ _ rfl wr.heap.size a1 c1 r1 rfl (unhide HO1) (some ⟨DX, 0, none⟩) dl.length dl _ rfl rfl (unhide HLr) (fun h => by cases h) (unhide HLn) (unhide HBa) ?_)
          intro a2 c2 r2 w2 hr2 ho2 hg2
          have HB2 : Hid (Below wr.heap.size wr w2) := below_grown (a := a1) (unhide HB1) hg2 (Nat.le_refl _) (fun k hk => ((unhide HO1).lt k hk).1)
          have HR2 : Hid (r2 = b ++ dl) := by show _ = _; rw [unhide hr2, unhide HR1]
          have hl2 : r2.length ≤ 50000000 := by rw [unhide HR2, List.length_append]; omega
          have HCh := hide (rchars_any says4 a2 r2.length c2 r2 w2 ho2.toBs rfl hl2)
          clear hr2 ho2 hg2 hl2 HO1 HB1 HR1 HL1 HLr HLn HBa
          go_wp2_with fail
          refine (unhide HCh).mono ?_
          rintro e w3 ⟨rfl, hb3⟩
          have HB3 : Hid (Below wr.heap.size wr w3) := (unhide HB2).trans (hb3.mono (unhide HB2).size)
          clear HCh hb3 HB2
          by_cases hch : chr r2 = none
          ·have hneg := (ch_neg r2).2 hch
           generalize chI r2 = X at hneg
           have HRT : Hid (RES = true) := by
            show _ = _
            rw [unhide HR2] at hch
            rw [unhide HRES]; exact fnd_mono b (r := r + 1) (by show (fndB b r || (_ || (decide (b.length = 1 ∧ r = 0) && twoB b))) = true; rw [decide_eq_true (unhide HONE), two_true (List.mem_of_getElem? (unhide HCC)) (List.mem_of_getElem? (unhide HDL)) hch]; simp) (by omega)
           have HF : Hid (Below w.heap.size w w3) := (unhide HWB).trans ((unhide HB3).mono (unhide HWB).size)
           clear hch
           go_wp2_with fail
           go_ret
           rw [unhide HRT]
           exact ⟨rfl, HF⟩
          ·have hneg := fun h => hch ((ch_neg r2).1 h)
           have hnb : ¬ chI r2 < 0 := hneg
           rw [unhide HR2] at hch
           generalize chI r2 = X at hnb
           clear hneg
           have HN1 : Hid (∀ d ∈ (dd cc).take (k + 1), chr (b ++ d) ≠ none) := fun d hd => by
            rw [List.take_add_one, unhide HDL] at hd
            rcases List.mem_append.1 hd with h | h
            ·exact unhide HNK d h
            ·obtain rfl : d = dl := by simpa using h
             exact hch
           have HB4 : Hid (Below E3.heap.size E3 w3) := (unhide HBE).trans ((unhide HB3).mono (unhide HBE).size)
           clear hch HR2 zk
           go_wp2_with fail
           go_roundw
           case rel => exact ⟨k + 1, by omega, by go_num, HN1, HB4⟩
           case measure => simp [intOf]; omega
         ·have hlk' : ¬ (k : Int) < 2 := by omega
          obtain rfl : k = 2 := by omega
          have HN1 : Hid (∀ c ∈ L3.take (i + 1), ∀ d ∈ dd c, chr (b ++ d) ≠ none) := fun c hc => by
           rw [List.take_add_one, unhide HCC] at hc
           rcases List.mem_append.1 hc with h | h
           ·exact unhide HNO c h
           ·obtain rfl : c = cc := by simpa using h
            exact unhide HNK
          have HB4 : Hid (Below U3.heap.size U3 wr) := (unhide HUE).trans ((unhide HBE).mono (unhide HUE).size)
          go_wp2_with fail
          go_roundw
          case rel => exact ⟨i + 1, by omega, by go_num, HN1, HB4⟩
          case measure => simp [intOf]; omega
       ·have hli' : ¬ (i : Int) < 3 := by omega
        obtain rfl : i = 3 := by omega
        have HF1 : Hid (fndB b (r + 1) = false) := by
         show (fndB b r || (sixB (b ++ List.replicate r 128) || (decide (b.length = 1 ∧ r = 0) && twoB b))) = false
         rw [unhide HFN, ← unhide HMO, unhide HSX, two_false (unhide HNO)]; simp
        have HWB : Hid (Below w.heap.size w wr) := (unhide HWU).trans ((unhide HBU).mono (unhide HWU).size)
        have HOX : Hid (OwnB wr w.heap.size a3 c3 mo) := (unhide HOU).below (unhide HBU) (Nat.le_refl _)
        clear HNO hi HRL HOU HWU HBU
        have HOa : Hid (OwnB (wr.alloc (.cells #[.int .u8 128] 5)) w.heap.size a3 c3 mo) := (unhide HOX).alloc _
        have HLr : Hid (Row (wr.alloc (.cells #[.int .u8 128] 5)) (some ⟨wr.heap.size, 0, none⟩) [128]) := litR wr _ [128] (0, 0) rfl
        have HLn : Hid (mo.length + [(128 : UInt8)].length ≤ 140737488355328) := by show _ ≤ _; simp; omega
        have HBa : Hid (w.heap.size ≤ (wr.alloc (.cells #[.int .u8 128] 5)).heap.size) := by have := (unhide HWB).size; show _ ≤ _; simp; omega
        go_wp2_with (at_builtin; refine wp_app _ rfl _ _ rfl w.heap.size a3 c3 mo rfl (unhide HOa) (some ⟨wr.heap.size, 0, none⟩) 1 [128] 1 rfl rfl (unhide HLr) (fun h => by cases h) (unhide HLn) (unhide HBa) ?_)
        intro a4 c4 mo4 w4 hr4 ho4 hg4
        have HB4 : Hid (Below w.heap.size w w4) := below_grown (a := a3) ((unhide HWB).alloc (unhide HWB).size _) hg4 (Nat.le_refl _) (fun k hk => ((unhide HOX).lt k hk).1)
        have HR4 : Hid (mo4 = b ++ List.replicate (r + 1) 128) := by show _ = _; rw [unhide hr4, unhide HMO, List.replicate_succ', List.append_assoc]
        have hl4 : mo4.length ≤ 1000003 := by rw [unhide HR4]; simp; omega
        have HO4 := hide ho4
        clear hr4 ho4 hg4 HOa HLr HLn HBa HOX
        go_wp2_with fail
        go_roundw
        case rel => exact ⟨r + 1, a4, c4, mo4, by omega, by go_num, rfl, hl4, HR4, HO4, HF1, HB4⟩
        case measure => simp [intOf]; omega
     ·have o12 : (((b.length : Int) == 1) = true ∧ ((mo.length : Int) == 1) = true) → False := by
       rintro ⟨k1, k2⟩
       apply hone
       have e1 : b.length = 1 := by have := k1; rw [beq_iff_eq] at this; omega
       have e2 : mo.length = 1 := by have := k2; rw [beq_iff_eq] at this; omega
       rw [unhide HMO] at e2
       simp at e2
       exact ⟨e1, by omega⟩
      have HF1 : Hid (fndB b (r + 1) = false) := by
       show (fndB b r || (sixB (b ++ List.replicate r 128) || (decide (b.length = 1 ∧ r = 0) && twoB b))) = false
       rw [unhide HFN, ← unhide HMO, unhide HSX, decide_eq_false hone]; simp
      clear hone
      cases o1 : ((b.length : Int) == 1) with
      | false =>
       clear o12
       have HOa : Hid (OwnB (wr.alloc (.cells #[.int .u8 128] 5)) w.heap.size a3 c3 mo) := (unhide HOX).alloc _
       have HLr : Hid (Row (wr.alloc (.cells #[.int .u8 128] 5)) (some ⟨wr.heap.size, 0, none⟩) [128]) := litR wr _ [128] (0, 0) rfl
       have HLn : Hid (mo.length + [(128 : UInt8)].length ≤ 140737488355328) := by show _ ≤ _; simp; omega
       have HBa : Hid (w.heap.size ≤ (wr.alloc (.cells #[.int .u8 128] 5)).heap.size) := by have := (unhide HWB).size; show _ ≤ _; simp; omega
       go_wp2_with (at_builtin; refine wp_app _ rfl _ _ rfl w.heap.size a3 c3 mo rfl (unhide HOa) (some ⟨wr.heap.size, 0, none⟩) 1 [128] 1 rfl rfl (unhide HLr) (fun h => by cases h) (unhide HLn) (unhide HBa) ?_)
       intro a4 c4 mo4 w4 hr4 ho4 hg4
       have HB4 : Hid (Below w.heap.size w w4) := below_grown (a := a3) ((unhide HWB).alloc (unhide HWB).size _) hg4 (Nat.le_refl _) (fun k hk => ((unhide HOX).lt k hk).1)
       have HR4 : Hid (mo4 = b ++ List.replicate (r + 1) 128) := by show _ = _; rw [unhide hr4, unhide HMO, List.replicate_succ', List.append_assoc]
       have hl4 : mo4.length ≤ 1000003 := by rw [unhide HR4]; simp; omega
       have HO4 := hide ho4
       clear hr4 ho4 hg4 HOa HLr HLn HBa HOX
       go_wp2_with fail
       go_roundw
       case rel => exact ⟨r + 1, a4, c4, mo4, by omega, by go_num, rfl, hl4, HR4, HO4, HF1, HB4⟩
       case measure => simp [intOf]; omega
      | true =>
       have o2 : ((mo.length : Int) == 1) = false := by
        cases h : ((mo.length : Int) == 1) with
        | false => rfl
        | true => exact (o12 ⟨o1, h⟩).elim
       clear o12
       have HOa : Hid (OwnB (wr.alloc (.cells #[.int .u8 128] 5)) w.heap.size a3 c3 mo) := (unhide HOX).alloc _
       have HLr : Hid (Row (wr.alloc (.cells #[.int .u8 128] 5)) (some ⟨wr.heap.size, 0, none⟩) [128]) := litR wr _ [128] (0, 0) rfl
       have HLn : Hid (mo.length + [(128 : UInt8)].length ≤ 140737488355328) := by show _ ≤ _; simp; omega
       have HBa : Hid (w.heap.size ≤ (wr.alloc (.cells #[.int .u8 128] 5)).heap.size) := by have := (unhide HWB).size; show _ ≤ _; simp; omega
       go_wp2_with (at_builtin; refine wp_app _ rfl _ _ rfl w.heap.size a3 c3 mo rfl (unhide HOa) (some ⟨wr.heap.size, 0, none⟩) 1 [128] 1 rfl rfl (unhide HLr) (fun h => by cases h) (unhide HLn) (unhide HBa) ?_)
       intro a4 c4 mo4 w4 hr4 ho4 hg4
       have HB4 : Hid (Below w.heap.size w w4) := below_grown (a := a3) ((unhide HWB).alloc (unhide HWB).size _) hg4 (Nat.le_refl _) (fun k hk => ((unhide HOX).lt k hk).1)
       have HR4 : Hid (mo4 = b ++ List.replicate (r + 1) 128) := by show _ = _; rw [unhide hr4, unhide HMO, List.replicate_succ', List.append_assoc]
       have hl4 : mo4.length ≤ 1000003 := by rw [unhide HR4]; simp; omega
       have HO4 := hide ho4
       clear hr4 ho4 hg4 HOa HLr HLn HBa HOX
       go_wp2_with fail
       go_roundw
       case rel => exact ⟨r + 1, a4, c4, mo4, by omega, by go_num, rfl, hl4, HR4, HO4, HF1, HB4⟩
       case measure => simp [intOf]; omega
  ·have hlt' : ¬ (r : Int) < 3 := by omega
   obtain rfl : r = 3 := by omega
   have HE : Hid (RES = false) := by show _ = _; rw [unhide HRES, ← fnd_beg]; exact unhide HFN
   go_wp2_with fail
   go_ret
   rw [unhide HE]
   exact ⟨rfl, HBW⟩
#print axioms rbegins_any
end Go.Proofs.YtbnbngmnoffmkaaGreatDoor
end
section
set_option linter.unusedVariables false
set_option maxRecDepth 1000000
namespace Go.Proofs.YtbnbngmnoffmkaaGreatDoor
open Go.RowKit

/-- Blocks in which finished values lie. -/
def Zt (g : Nat → Nat) (w : World) : Nat → Prop := fun k => g k = 0 ∧ k < w.heap.size
/-- Blocks whose tags are of T stay as they are. -/
structure Kq (w w' : World) (g g' : Nat → Nat) (T : Nat → Prop) : Prop where
 os : w'.os = w.os
 tape : w'.tape = w.tape
 output : w'.output = w.output
 size : w.heap.size ≤ w'.heap.size
 tag : ∀ k, k < w.heap.size → T (g k) → g' k = g k ∧ w'.heap[k]? = w.heap[k]?
theorem Kq.refl (w : World) (g : Nat → Nat) (T : Nat → Prop) : Kq w w g g T := ⟨rfl, rfl, rfl, Nat.le_refl _, fun _ _ _ => ⟨rfl, rfl⟩⟩
theorem Kq.trans {a b c : World} {g g' g'' : Nat → Nat} {T : Nat → Prop} (x : Kq a b g g' T) (y : Kq b c g' g'' T) : Kq a c g g'' T :=
 ⟨y.os.trans x.os, y.tape.trans x.tape, y.output.trans x.output, Nat.le_trans x.size y.size, fun k hk ht => by
  obtain ⟨e1, e2⟩ := x.tag k hk ht
  obtain ⟨e3, e4⟩ := y.tag k (Nat.lt_of_lt_of_le hk x.size) (by rw [e1]; exact ht)
  exact ⟨e3.trans e1, e4.trans e2⟩⟩
theorem Kq.mono {w w' : World} {g g' : Nat → Nat} {T T' : Nat → Prop} (x : Kq w w' g g' T) (h : ∀ t, T' t → T t) : Kq w w' g g' T' := ⟨x.os, x.tape, x.output, x.size, fun k hk ht => x.tag k hk (h _ ht)⟩
theorem Kq.ofB {w w' : World} {g : Nat → Nat} {T : Nat → Prop} (h : Below w.heap.size w w') : Kq w w' g g T := ⟨h.os, h.tape, h.output, h.size, fun k hk _ => ⟨rfl, h.block k hk⟩⟩
theorem Kq.ofMv {w w' : World} {g : Nat → Nat} {P t : Nat} (h : Mv w w' P) (hP : g P = t) : Kq w w' g g (· ≠ t) := ⟨h.os, h.tape, h.output, h.size, fun k hk ht => ⟨rfl, h.block k hk (fun e => ht (by rw [Option.some.inj e]; exact hP))⟩⟩
theorem jv_kq {w w' : World} {g g' : Nat → Nat} {T : Nat → Prop} (K : Kq w w' g g' T) (h0 : T 0) {v : Value} {j : Js} (h : JV w (Zt g w) v j) : JV w' (Zt g' w') v j :=
 JV.keep (fun k hk => by
  obtain ⟨e1, e2⟩ := K.tag k hk.2 (by rw [hk.1]; exact h0)
  exact ⟨⟨e1.trans hk.1, Nat.lt_of_lt_of_le hk.2 K.size⟩, e2⟩) _ _ h
/-- An open list or object, in six cells. -/
def OpX (w : World) (g : Nat → Nat) (base i : Nat) (o : Opn) (c : Nat → Option Value) : Prop := ∃ a1 d1 a2 d2 xs,
 c 0 = some (.int .i64 o.k) ∧ c 1 = some (.int .i64 0) ∧ c 2 = some (.string (str [])) ∧ c 3 = some (.slice a1 o.ns.length d1) ∧ c 4 = some (.slice a2 o.is.length d2) ∧ c 5 = some (.string (str o.nm)) ∧
 OwnT w base a1 d1 o.ns ∧ OwnJ w base a2 d2 o.is.length xs ∧ (∀ k, blk a1 = some k → g k = 10 + 2 * i) ∧ (∀ k, blk a2 = some k → g k = 11 + 2 * i) ∧
 ∀ q j, o.is[q]? = some j → ∃ v, At5 xs q v ∧ JV w (Zt g w) v j
theorem op_kq {w w' : World} {g g' : Nat → Nat} {T : Nat → Prop} (K : Kq w w' g g' T) {base i : Nat} {o : Opn} {c : Nat → Option Value} (h0 : T 0) (h1 : T (10 + 2 * i)) (h2 : T (11 + 2 * i)) (h : OpX w g base i o c) : OpX w' g' base i o c := by
 obtain ⟨a1, d1, a2, d2, xs, c0, c1, c2, c3, c4, c5, hT, hJ, t1, t2, hE⟩ := h
 refine ⟨a1, d1, a2, d2, xs, c0, c1, c2, c3, c4, c5, ?_, ?_, ?_, ?_, ?_⟩
 ·exact owns_same hT (fun k hk => (K.tag k (owns_lt hT k hk).2 (by rw [t1 k hk]; exact h1)).2)
 ·exact owns_same hJ (fun k hk => (K.tag k (owns_lt hJ k hk).2 (by rw [t2 k hk]; exact h2)).2)
 ·exact fun k hk => (K.tag k (owns_lt hT k hk).2 (by rw [t1 k hk]; exact h1)).1.trans (t1 k hk)
 ·exact fun k hk => (K.tag k (owns_lt hJ k hk).2 (by rw [t2 k hk]; exact h2)).1.trans (t2 k hk)
 ·intro q j hj
  obtain ⟨v, p1, p2⟩ := hE q j hj
  exact ⟨v, p1, jv_kq K h0 p2⟩
theorem op_same {w : World} {g : Nat → Nat} {base i : Nat} {o : Opn} {c c' : Nat → Option Value} (h : OpX w g base i o c) (e : ∀ r, r < 6 → c' r = c r) : OpX w g base i o c' := by
 obtain ⟨a1, d1, a2, d2, xs, c0, c1, c2, c3, c4, c5, hr⟩ := h
 exact ⟨a1, d1, a2, d2, xs, (e 0 (by omega)).trans c0, (e 1 (by omega)).trans c1, (e 2 (by omega)).trans c2, (e 3 (by omega)).trans c3, (e 4 (by omega)).trans c4, (e 5 (by omega)).trans c5, hr⟩
/-- The machine's block. -/
def mcO (m : Mc) (la : Option Addr) (lc : Nat) (vk vn : Int) (vt : List UInt8) (va1 : Option Addr) (vn1 vc1 : Nat) (va2 : Option Addr) (vn2 vc2 : Nat) (ta : Option Addr) (tc : Nat) (ca : Option Addr) (cc : Nat) : Obj :=
 .cells #[.int .i64 (m.st : Int), .slice la m.l.length lc, .string (str m.rest), .int .i64 vk, .int .i64 vn, .string (str vt), .slice va1 vn1 vc1, .slice va2 vn2 vc2, .slice ta m.text.length tc, .bool m.isKey, .slice ca m.char.length cc, .int .i64 (m.n : Int), .int .i64 (m.many : Int), .int .i64 (m.high : Int), .bool m.neg, .int .i64 m.num] 52 (0, 0)
structure MS (w : World) (g : Nat → Nat) (P base : Nat) (m : Mc) (la : Option Addr) (lc : Nat) (vk vn : Int) (vt : List UInt8) (va1 : Option Addr) (vn1 vc1 : Nat) (va2 : Option Addr) (vn2 vc2 : Nat) (ta : Option Addr) (tc : Nat) (ca : Option Addr) (cc : Nat) (fs : List Value) : Prop where
 row : w.heap[P]? = some (mcO m la lc vk vn vt va1 vn1 vc1 va2 vn2 vc2 ta tc ca cc)
 jv : JV w (Zt g w) (.agg #[.int .i64 vk, .int .i64 vn, .string (str vt), .slice va1 vn1 vc1, .slice va2 vn2 vc2]) m.v
 lo : w.ownsRow base 112 6 (.slice la m.l.length lc) m.l.length fs
 el : ∀ i o, m.l[i]? = some o → OpX w g base i o (fun r => fs[i * 6 + r]?)
 tx : OwnB w base ta tc m.text
 ch : OwnB w base ca cc m.char
 tP : g P = 1
 tl : ∀ k, blk la = some k → g k = 2
 tt : ∀ k, blk ta = some k → g k = 3
 th : ∀ k, blk ca = some k → g k = 4
 bP : base ≤ P
def Mb (w : World) (g : Nat → Nat) (P base : Nat) (m : Mc) : Prop := ∃ la lc vk vn vt va1 vn1 vc1 va2 vn2 vc2 ta tc ca cc fs, MS w g P base m la lc vk vn vt va1 vn1 vc1 va2 vn2 vc2 ta tc ca cc fs
section
variable {w : World} {g : Nat → Nat} {P base : Nat} {m : Mc} {la : Option Addr} {lc : Nat} {vk vn : Int} {vt : List UInt8} {va1 : Option Addr} {vn1 vc1 : Nat} {va2 : Option Addr} {vn2 vc2 : Nat} {ta : Option Addr} {tc : Nat} {ca : Option Addr} {cc : Nat} {fs : List Value}
theorem MS.lt (h : MS w g P base m la lc vk vn vt va1 vn1 vc1 va2 vn2 vc2 ta tc ca cc fs) : P < w.heap.size := (Array.getElem?_eq_some_iff.1 h.row).1
/-- All of it but the machine's block, text and character. -/
theorem MS.re (h : MS w g P base m la lc vk vn vt va1 vn1 vc1 va2 vn2 vc2 ta tc ca cc fs) {w' : World} {g' : Nat → Nat} {m' : Mc} {vk' vn' : Int} {vt' : List UInt8} {va1' : Option Addr} {vn1' vc1' : Nat} {va2' : Option Addr} {vn2' vc2' : Nat} {ta' : Option Addr} {tc' : Nat} {ca' : Option Addr} {cc' : Nat}
  (K : Kq w w' g g' (fun t => t ≠ 1 ∧ t ≠ 3 ∧ t ≠ 4)) (hl : m'.l = m.l) (row' : w'.heap[P]? = some (mcO m' la lc vk' vn' vt' va1' vn1' vc1' va2' vn2' vc2' ta' tc' ca' cc'))
  (jv' : JV w' (Zt g' w') (.agg #[.int .i64 vk', .int .i64 vn', .string (str vt'), .slice va1' vn1' vc1', .slice va2' vn2' vc2']) m'.v)
  (tx' : OwnB w' base ta' tc' m'.text) (ch' : OwnB w' base ca' cc' m'.char) (tP' : g' P = 1) (tt' : ∀ k, blk ta' = some k → g' k = 3) (th' : ∀ k, blk ca' = some k → g' k = 4) :
  MS w' g' P base m' la lc vk' vn' vt' va1' vn1' vc1' va2' vn2' vc2' ta' tc' ca' cc' fs := by
 refine ⟨row', jv', ?_, fun i o hi => ?_, tx', ch', tP', fun k hk => ?_, tt', th', h.bP⟩
 ·rw [hl]
  exact owns_same h.lo (fun k hk => (K.tag k (owns_lt h.lo k hk).2 (by rw [h.tl k hk]; simp)).2)
 ·rw [hl] at hi
  exact op_kq K (by simp) ⟨by omega, by omega, by omega⟩ ⟨by omega, by omega, by omega⟩ (h.el i o hi)
 ·exact (K.tag k (owns_lt h.lo k hk).2 (by rw [h.tl k hk]; simp)).1.trans (h.tl k hk)
theorem MS.ne (h : MS w g P base m la lc vk vn vt va1 vn1 vc1 va2 vn2 vc2 ta tc ca cc fs) : (∀ k, blk ta = some k → k ≠ P) ∧ (∀ k, blk ca = some k → k ≠ P) ∧ (∀ k, blk la = some k → k ≠ P) :=
 ⟨fun k hk e => by have := h.tt k hk; rw [e, h.tP] at this; omega, fun k hk e => by have := h.th k hk; rw [e, h.tP] at this; omega, fun k hk e => by have := h.tl k hk; rw [e, h.tP] at this; omega⟩
/-- Only the machine's own block is another one. -/
theorem MS.mv (h : MS w g P base m la lc vk vn vt va1 vn1 vc1 va2 vn2 vc2 ta tc ca cc fs) {w' : World} (mv : Mv w w' P) {m' : Mc} (hl : m'.l = m.l) (ht : m'.text = m.text) (hc : m'.char = m.char) (hv : m'.v = m.v)
  (row' : w'.heap[P]? = some (mcO m' la lc vk vn vt va1 vn1 vc1 va2 vn2 vc2 ta tc ca cc)) :
  MS w' g P base m' la lc vk vn vt va1 vn1 vc1 va2 vn2 vc2 ta tc ca cc fs := by
 have K1 := Kq.ofMv mv h.tP
 refine h.re (K1.mono (fun t ht => ht.1)) hl row' ?_ ?_ ?_ h.tP h.tt h.th
 ·rw [hv]; exact jv_kq K1 (by omega) h.jv
 ·rw [ht]; exact owns_same h.tx (fun k hk => mv.block k (owns_lt h.tx k hk).2 (fun e => h.ne.1 k hk (Option.some.inj e)))
 ·rw [hc]; exact owns_same h.ch (fun k hk => mv.block k (owns_lt h.ch k hk).2 (fun e => h.ne.2.1 k hk (Option.some.inj e)))
theorem MS.below (h : MS w g P base m la lc vk vn vt va1 vn1 vc1 va2 vn2 vc2 ta tc ca cc fs) {w' : World} (hb : Below w.heap.size w w') : MS w' g P base m la lc vk vn vt va1 vn1 vc1 va2 vn2 vc2 ta tc ca cc fs :=
 h.mv (Mv.ofB hb) rfl rfl rfl rfl ((hb.block P h.lt).trans h.row)
theorem MS.cells (h : MS w g P base m la lc vk vn vt va1 vn1 vc1 va2 vn2 vc2 ta tc ca cc fs) : (∀ i v, (#[.int .i64 (m.st : Int), .slice la m.l.length lc, .string (str m.rest), .int .i64 vk, .int .i64 vn, .string (str vt), .slice va1 vn1 vc1, .slice va2 vn2 vc2, .slice ta m.text.length tc, .bool m.isKey, .slice ca m.char.length cc, .int .i64 (m.n : Int), .int .i64 (m.many : Int), .int .i64 (m.high : Int), .bool m.neg, .int .i64 m.num] : Array Value)[i]? = some v → w.cell? ⟨P, i, none⟩ = some v) ∧ ∀ i, w.frozen? ⟨P, i, none⟩ = false :=
 ⟨fun i v hv => (cell_of_row w P i _ _ _ h.row).trans hv, fun i => frozen_of_row w P i _ _ h.row⟩
end
/-- What a method of the machine hands back. -/
def Mp (w : World) (g : Nat → Nat) (P base : Nat) (R : Nat × Mc) (e : Ending) (w' : World) : Prop := ∃ g', e = .returned (.int .i64 (R.1 : Int)) ∧ (R.1 = 0 → Mb w' g' P base R.2) ∧ Kq w w' g g' (· = 5)
/-- .. one that hands back nothing. -/
def Mq (w : World) (g : Nat → Nat) (P base : Nat) (m : Mc) (e : Ending) (w' : World) : Prop := ∃ g', e = .returned (.tuple #[]) ∧ Mb w' g' P base m ∧ Kq w w' g g' (· = 5)
/-- Bounds. -/
structure Iv (N : Nat) (m : Mc) : Prop where
 st : m.st ≤ 15
 l16 : m.l.length ≤ 16
 tx : m.text.length ≤ N
 ch : m.char.length ≤ N
 ns : ∀ o ∈ m.l, o.ns.length ≤ N ∧ o.is.length ≤ N ∧ (o.k = 4 ∨ o.k = 5)
 n : m.n ≤ 65535
 many : m.many ≤ 4
 hex : m.st = 11 → m.many ≤ 3 ∧ m.n < 16 ^ m.many
 high : m.high = 0 ∨ (55296 ≤ m.high ∧ m.high ≤ 56319)
 hxi : m.st = 11 → HxI m.high m.many m.n
 num : (m.neg = true → -9223372036854775808 ≤ m.num ∧ m.num ≤ 0) ∧ (m.neg = false → 0 ≤ m.num ∧ m.num ≤ 9223372036854775807)
 rest : m.st = 6 → m.rest ≠ []
 key : (m.st = 9 ∨ m.st = 10 ∨ m.st = 11 ∨ m.st = 12 ∨ m.st = 13 ∨ m.st = 15) → m.isKey = true → m.l ≠ []
 four : m.st = 4 → m.l ≠ []
#print axioms MS.mv
end Go.Proofs.YtbnbngmnoffmkaaGreatDoor
end
section
set_option linter.unusedVariables false
set_option maxRecDepth 1000000
namespace Go.Proofs.YtbnbngmnoffmkaaGreatDoor
open Go.RowKit

section
variable {w : World} {g : Nat → Nat} {P base : Nat} {m : Mc} {la : Option Addr} {lc : Nat} {vk vn : Int} {vt : List UInt8} {va1 : Option Addr} {vn1 vc1 : Nat} {va2 : Option Addr} {vn2 vc2 : Nat} {ta : Option Addr} {tc : Nat} {ca : Option Addr} {cc : Nat} {fs : List Value}
theorem MS.mb (h : MS w g P base m la lc vk vn vt va1 vn1 vc1 va2 vn2 vc2 ta tc ca cc fs) : Mb w g P base m := ⟨la, lc, vk, vn, vt, va1, vn1, vc1, va2, vn2, vc2, ta, tc, ca, cc, fs, h⟩
theorem MS.fin0 (h : MS w g P base m la lc vk vn vt va1 vn1 vc1 va2 vn2 vc2 ta tc ca cc fs) {w' : World} (mv : Mv w w' P) {m' : Mc} (hl : m'.l = m.l) (ht : m'.text = m.text) (hc : m'.char = m.char) (hv : m'.v = m.v)
  (row' : w'.heap[P]? = some (mcO m' la lc vk vn vt va1 vn1 vc1 va2 vn2 vc2 ta tc ca cc)) : Mp w g P base (0, m') (.returned (.int .i64 0)) w' :=
 ⟨g, rfl, fun _ => (h.mv mv hl ht hc hv row').mb, (Kq.ofMv mv h.tP).mono (fun t ht => by omega)⟩
theorem MS.fail (h : MS w g P base m la lc vk vn vt va1 vn1 vc1 va2 vn2 vc2 ta tc ca cc fs) (y : Nat) (hy : y ≠ 0) (m' : Mc) : Mp w g P base (y, m') (.returned (.int .i64 (y : Int))) w :=
 ⟨g, rfl, fun e => absurd e hy, Kq.refl _ _ _⟩
end
theorem rblank_any (c : UInt8) (w : World) : Calls Tryz.prog 41 #[.int .u8 (c.toNat : Int)] w fun e w' => e = .returned (.bool (blB4 c)) ∧ w' = w := by
 have key : ∀ n : UInt8, ((c.toNat : Int) == (n.toNat : Int)) = (c == n) := fun n => by
  rw [Bool.eq_iff_iff]
  simp only [beq_iff_eq]
  exact ⟨fun h => UInt8.toNat_inj.1 (by omega), fun h => by rw [h]⟩
 have k9 : ((c.toNat : Int) == 9) = (c == 9) := key 9
 have k10 : ((c.toNat : Int) == 10) = (c == 10) := key 10
 have k13 : ((c.toNat : Int) == 13) = (c == 13) := key 13
 have k32 : ((c.toNat : Int) == 32) = (c == 32) := key 32
 have HE : Hid (blB4 c = (c == 32 || c == 9 || c == 10 || c == 13)) := rfl
 generalize blB4 c = R at HE
 generalize (c == 9) = x9 at k9 HE
 generalize (c == 10) = x10 at k10 HE
 generalize (c == 13) = x13 at k13 HE
 generalize (c == 32) = x32 at k32 HE
 clear key
 cases x9 <;> cases x10 <;> cases x13 <;> cases x32
 all_goals
  go_enter Tryz.func41, Tryz.ntmps41
  go_wp2
  go_ret
  rw [unhide HE]
  exact ⟨rfl, rfl⟩
def hxI (c : UInt8) : Int := match hxB c with | none => -1 | some x => (x : Int)
theorem rhex_any (c : UInt8) (w : World) : Calls Tryz.prog 79 #[.int .u8 (c.toNat : Int)] w fun e w' => e = .returned (.int .i64 (hxI c)) ∧ w' = w := by
 obtain ⟨R, hR⟩ : ∃ R, R = hxI c := ⟨_, rfl⟩
 rw [← hR]
 have hlt := c.toNat_lt
 obtain ⟨d, hd⟩ : ∃ d : Nat, d = c.toNat := ⟨_, rfl⟩
 unfold hxI hxB at hR
 rw [← hd] at hR hlt ⊢
 have HR := hide hR
 clear hR hd
 by_cases h1 : 48 ≤ d ∧ d ≤ 57
 ·have a1 : (48 : Int) ≤ (d : Int) := by omega
  have a2 : (d : Int) ≤ 57 := by omega
  have z : IntKind.u8.wrap ((d : Int) - 48) = ((d - 48 : Nat) : Int) := by simp [IntKind.wrap, IntKind.bits, IntKind.signed]; omega
  have HE : Hid (R = ((d - 48 : Nat) : Int)) := by show _ = _; rw [unhide HR, if_pos h1]
  obtain ⟨D, hD⟩ : ∃ D, D = d - 48 := ⟨_, rfl⟩
  have hD9 : D ≤ 15 := by omega
  rw [← hD] at HE z
  clear h1 HR hD
  go_enter Tryz.func79, Tryz.ntmps79
  go_wp2
  go_ret
  rw [unhide HE]
  exact ⟨rfl, rfl⟩
 ·by_cases h2 : 97 ≤ d ∧ d ≤ 102
  ·have b1 : ¬ ((d : Int) ≤ 57) := by omega
   have b0 : (48 : Int) ≤ (d : Int) := by omega
   have a1 : (97 : Int) ≤ (d : Int) := by omega
   have a2 : (d : Int) ≤ 102 := by omega
   have z : IntKind.u8.wrap ((d : Int) - 97) = ((d - 97 : Nat) : Int) := by simp [IntKind.wrap, IntKind.bits, IntKind.signed]; omega
   have HE : Hid (R = ((d - 97 : Nat) : Int) + 10) := by show _ = _; rw [unhide HR, if_neg h1, if_pos h2]; push_cast; rfl
   obtain ⟨D, hD⟩ : ∃ D, D = d - 97 := ⟨_, rfl⟩
   have hD9 : D ≤ 15 := by omega
   rw [← hD] at HE z
   clear h1 h2 HR hD
   go_enter Tryz.func79, Tryz.ntmps79
   go_wp2
   go_ret
   rw [unhide HE]
   exact ⟨rfl, rfl⟩
  ·by_cases h3 : 65 ≤ d ∧ d ≤ 70
   ·have b1 : ¬ ((d : Int) ≤ 57) := by omega
    have b0 : (48 : Int) ≤ (d : Int) := by omega
    have b2 : ¬ ((97 : Int) ≤ (d : Int)) := by omega
    have a1 : (65 : Int) ≤ (d : Int) := by omega
    have a2 : (d : Int) ≤ 70 := by omega
    have z : IntKind.u8.wrap ((d : Int) - 65) = ((d - 65 : Nat) : Int) := by simp [IntKind.wrap, IntKind.bits, IntKind.signed]; omega
    have HE : Hid (R = ((d - 65 : Nat) : Int) + 10) := by show _ = _; rw [unhide HR, if_neg h1, if_neg h2, if_pos h3]; push_cast; rfl
    obtain ⟨D, hD⟩ : ∃ D, D = d - 65 := ⟨_, rfl⟩
    have hD9 : D ≤ 15 := by omega
    rw [← hD] at HE z
    clear h1 h2 h3 HR hD
    go_enter Tryz.func79, Tryz.ntmps79
    go_wp2
    go_ret
    rw [unhide HE]
    exact ⟨rfl, rfl⟩
   ·have HE : Hid (R = -1) := by show _ = _; rw [unhide HR, if_neg h1, if_neg h2, if_neg h3]
    clear HR
    by_cases k1 : d < 48
    ·have q1 : ¬ ((48 : Int) ≤ (d : Int)) := by omega
     have q2 : ¬ ((97 : Int) ≤ (d : Int)) := by omega
     have q3 : ¬ ((65 : Int) ≤ (d : Int)) := by omega
     go_enter Tryz.func79, Tryz.ntmps79
     go_wp2
     go_ret
     rw [unhide HE]
     exact ⟨rfl, rfl⟩
    ·have q0 : (48 : Int) ≤ (d : Int) := by omega
     have q1 : ¬ ((d : Int) ≤ 57) := by omega
     by_cases k2 : d < 65
     ·have q2 : ¬ ((97 : Int) ≤ (d : Int)) := by omega
      have q3 : ¬ ((65 : Int) ≤ (d : Int)) := by omega
      go_enter Tryz.func79, Tryz.ntmps79
      go_wp2
      go_ret
      rw [unhide HE]
      exact ⟨rfl, rfl⟩
     ·have q3 : (65 : Int) ≤ (d : Int) := by omega
      have q4 : ¬ ((d : Int) ≤ 70) := by omega
      by_cases k3 : d < 97
      ·have q2 : ¬ ((97 : Int) ≤ (d : Int)) := by omega
       go_enter Tryz.func79, Tryz.ntmps79
       go_wp2
       go_ret
       rw [unhide HE]
       exact ⟨rfl, rfl⟩
      ·have q2 : (97 : Int) ≤ (d : Int) := by omega
       have q5 : ¬ ((d : Int) ≤ 102) := by omega
       go_enter Tryz.func79, Tryz.ntmps79
       go_wp2
       go_ret
       rw [unhide HE]
       exact ⟨rfl, rfl⟩
set_option maxHeartbeats 4000000 in
theorem rdigit_any (N : Nat) (c : UInt8) (hc : dgB4 c = true) {w : World} {g : Nat → Nat} {P base : Nat} {m : Mc} {la : Option Addr} {lc : Nat} {vk vn : Int} {vt : List UInt8} {va1 : Option Addr} {vn1 vc1 : Nat} {va2 : Option Addr} {vn2 vc2 : Nat} {ta : Option Addr} {tc : Nat} {ca : Option Addr} {cc : Nat} {fs : List Value}
  (h : MS w g P base m la lc vk vn vt va1 vn1 vc1 va2 vn2 vc2 ta tc ca cc fs) (hi : Iv N m) :
  Calls Tryz.prog 77 #[.pointer (some ⟨P, 0, none⟩), .int .u8 (c.toNat : Int)] w fun e w' => Mp w g P base (digitM m c) e w' := by
 obtain ⟨h1, h2⟩ := dg_val hc
 obtain ⟨D, hD⟩ : ∃ D : Nat, D = c.toNat - 48 := ⟨_, rfl⟩
 have z : IntKind.u8.wrap ((c.toNat : Int) - 48) = (D : Int) := by simp [IntKind.wrap, IntKind.bits, IntKind.signed]; omega
 have hD9 : D ≤ 9 := by omega
 have hDi : (c.toNat : Int) - 48 = (D : Int) := by omega
 obtain ⟨R, hR⟩ : ∃ R, R = digitM m c := ⟨_, rfl⟩
 rw [← hR]
 unfold digitM at hR
 rw [hDi] at hR
 have HR := hide hR
 have HH := hide h
 obtain ⟨hcell, hfr⟩ := h.cells
 have c0 := hcell 0 _ rfl
 have c14 := hcell 14 _ rfl
 have c15 := hcell 15 _ rfl
 have f0 := hfr 0
 have f15 := hfr 15
 have hnum := hi.num
 have hst := hi.st
 have HW : Hid (∀ (x : Int) (s : Nat) (w' : World), w' = (w.setCell ⟨P, 15, none⟩ (.int .i64 x)).setCell ⟨P, 0, none⟩ (.int .i64 (s : Int)) → Mp w g P base (0, { m with num := x, st := s }) (.returned (.int .i64 0)) w') := fun x s w' e => by
  refine (unhide HH).fin0 (m' := { m with num := x, st := s }) ?_ rfl rfl rfl rfl ?_
  ·rw [e]; exact (Mv.set _ _ _ _).trans (Mv.set _ _ _ _)
  ·rw [e]; exact heap_setCell_same _ _ _ _ _ _ (heap_setCell_same _ _ _ _ _ _ (unhide HH).row)
 obtain ⟨cn, hcn⟩ : ∃ cn : Int, cn = (c.toNat : Int) := ⟨_, rfl⟩
 rw [← hcn] at z ⊢
 obtain ⟨x, hx⟩ : ∃ x, x = m.num := ⟨_, rfl⟩
 rw [← hx] at c15 hnum
 have HX := hide hx
 obtain ⟨s, hs⟩ : ∃ s, s = m.st := ⟨_, rfl⟩
 rw [← hs] at c0 hst
 have HS := hide hs
 have HD := hide hD
 clear hcell hfr h hi hR hDi hcn hx hs hD h1 h2 hc
 cases hneg : m.neg with
 | true =>
  rw [hneg] at c14
  obtain ⟨n1, n2⟩ := hnum.1 hneg
  have HNG := hide hneg
  clear hnum hneg
  by_cases hA : x < -922337203685477580 ∨ (x = -922337203685477580 ∧ (D : Int) > 8)
  ·have HE : Hid (R = (42, m)) := by show _ = _; rw [unhide HR, unhide HNG, if_pos rfl, ← unhide HX, if_pos hA]
   have HF : Hid (Mp w g P base R (.returned (.int .i64 42)) w) := by show Mp _ _ _ _ _ _ _; rw [unhide HE]; exact (unhide HH).fail 42 (by omega) m
   by_cases k1 : x < -922337203685477580
   ·clear hA HR HW
    go_enter Tryz.func77, Tryz.ntmps77
    go_wp2
    go_ret
    exact HF
   ·obtain ⟨k2, k3⟩ := hA.resolve_left k1
    subst k2
    have k4 : (8 : Int) < (D : Int) := k3
    clear hA HR HW k3
    go_enter Tryz.func77, Tryz.ntmps77
    go_wp2
    go_ret
    exact HF
  ·skip
   have HE : Hid (∀ S : Nat, S = (if s ≠ 7 ∧ (D : Int) = 0 then 14 else 7) → ∀ w', w' = (w.setCell ⟨P, 15, none⟩ (.int .i64 (x * 10 - (D : Int)))).setCell ⟨P, 0, none⟩ (.int .i64 (S : Int)) → Mp w g P base R (.returned (.int .i64 0)) w') := fun S hS w' e => by
    rw [unhide HR, unhide HNG, if_pos rfl, ← unhide HX, if_neg hA, ← unhide HS]
    rw [hS] at e
    have := unhide HW _ _ w' e
    rw [unhide HNG] at this
    exact this
   have k1 : ¬ x < -922337203685477580 := fun k => hA (.inl k)
   have y1 : -9223372036854775808 ≤ x * 10 - (D : Int) ∧ x * 10 - (D : Int) ≤ 9223372036854775807 := by
    have : ¬ (x = -922337203685477580 ∧ (D : Int) > 8) := fun k => hA (.inr k)
    omega
   obtain ⟨y1, y2⟩ := y1
   have y3 : -9223372036854775808 ≤ x * 10 ∧ x * 10 ≤ 9223372036854775807 := by omega
   obtain ⟨y3, y4⟩ := y3
   obtain ⟨S, hS⟩ : ∃ S : Nat, S = (if s ≠ 7 ∧ (D : Int) = 0 then 14 else 7) := ⟨_, rfl⟩
   have HF := hide (unhide HE S hS)
   have hx2 : ((x == -922337203685477580) = true ∧ ¬ (8 : Int) < (D : Int)) ∨ (x == -922337203685477580) = false := by
    by_cases k : x = -922337203685477580
    ·left; exact ⟨by simp [k], fun k2 => hA (.inr ⟨k, k2⟩)⟩
    ·right; simpa using k
   have hs2 : (((s : Int) != 7) = false ∧ S = 7) ∨ (((s : Int) != 7) = true ∧ (((D : Int) == 0) = true ∧ S = 14 ∨ ((D : Int) == 0) = false ∧ S = 7)) := by
    by_cases k : s = 7
    ·left; subst k; exact ⟨by simp, by rw [hS]; simp⟩
    ·right
     refine ⟨by simp; omega, ?_⟩
     by_cases k2 : (D : Int) = 0
     ·left; exact ⟨by simp [k2], by rw [hS, if_pos ⟨k, k2⟩]⟩
     ·right; exact ⟨by simpa using k2, by rw [hS, if_neg (fun k3 => k2 k3.2)]⟩
   clear hA HR HW HE hS HNG HX HS HD HH
   rcases hx2 with ⟨u1, u2⟩ | u1 <;> rcases hs2 with ⟨v1, rfl⟩ | ⟨v1, ⟨v2, rfl⟩ | ⟨v2, rfl⟩⟩
   all_goals
    go_enter Tryz.func77, Tryz.ntmps77
    go_wp2
    go_ret
    exact unhide HF _ rfl
 | false =>
  rw [hneg] at c14
  obtain ⟨n1, n2⟩ := hnum.2 hneg
  have HNG := hide hneg
  clear hnum hneg
  by_cases hA : x > 922337203685477580 ∨ (x = 922337203685477580 ∧ (D : Int) > 7)
  ·have HE : Hid (R = (42, m)) := by show _ = _; rw [unhide HR, unhide HNG, if_neg (by simp), ← unhide HX, if_pos hA]
   have HF : Hid (Mp w g P base R (.returned (.int .i64 42)) w) := by show Mp _ _ _ _ _ _ _; rw [unhide HE]; exact (unhide HH).fail 42 (by omega) m
   by_cases k1 : 922337203685477580 < x
   ·clear hA HR HW
    go_enter Tryz.func77, Tryz.ntmps77
    go_wp2
    go_ret
    exact HF
   ·obtain ⟨k2, k3⟩ := hA.resolve_left k1
    subst k2
    have k4 : (7 : Int) < (D : Int) := k3
    clear hA HR HW k3
    go_enter Tryz.func77, Tryz.ntmps77
    go_wp2
    go_ret
    exact HF
  ·skip
   have HE : Hid (∀ S : Nat, S = (if s ≠ 7 ∧ (D : Int) = 0 then 14 else 7) → ∀ w', w' = (w.setCell ⟨P, 15, none⟩ (.int .i64 (x * 10 + (D : Int)))).setCell ⟨P, 0, none⟩ (.int .i64 (S : Int)) → Mp w g P base R (.returned (.int .i64 0)) w') := fun S hS w' e => by
    rw [unhide HR, unhide HNG, if_neg (by simp), ← unhide HX, if_neg hA, ← unhide HS]
    rw [hS] at e
    have := unhide HW _ _ w' e
    rw [unhide HNG] at this
    exact this
   have k1 : ¬ 922337203685477580 < x := fun k => hA (.inl k)
   have y1 : -9223372036854775808 ≤ x * 10 + (D : Int) ∧ x * 10 + (D : Int) ≤ 9223372036854775807 := by
    have : ¬ (x = 922337203685477580 ∧ (D : Int) > 7) := fun k => hA (.inr k)
    omega
   obtain ⟨y1, y2⟩ := y1
   have y3 : -9223372036854775808 ≤ x * 10 ∧ x * 10 ≤ 9223372036854775807 := by omega
   obtain ⟨y3, y4⟩ := y3
   obtain ⟨S, hS⟩ : ∃ S : Nat, S = (if s ≠ 7 ∧ (D : Int) = 0 then 14 else 7) := ⟨_, rfl⟩
   have HF := hide (unhide HE S hS)
   have hx2 : ((x == 922337203685477580) = true ∧ ¬ (7 : Int) < (D : Int)) ∨ (x == 922337203685477580) = false := by
    by_cases k : x = 922337203685477580
    ·left; exact ⟨by simp [k], fun k2 => hA (.inr ⟨k, k2⟩)⟩
    ·right; simpa using k
   have hs2 : (((s : Int) != 7) = false ∧ S = 7) ∨ (((s : Int) != 7) = true ∧ (((D : Int) == 0) = true ∧ S = 14 ∨ ((D : Int) == 0) = false ∧ S = 7)) := by
    by_cases k : s = 7
    ·left; subst k; exact ⟨by simp, by rw [hS]; simp⟩
    ·right
     refine ⟨by simp; omega, ?_⟩
     by_cases k2 : (D : Int) = 0
     ·left; exact ⟨by simp [k2], by rw [hS, if_pos ⟨k, k2⟩]⟩
     ·right; exact ⟨by simpa using k2, by rw [hS, if_neg (fun k3 => k2 k3.2)]⟩
   clear hA HR HW HE hS HNG HX HS HD HH
   rcases hx2 with ⟨u1, u2⟩ | u1 <;> rcases hs2 with ⟨v1, rfl⟩ | ⟨v1, ⟨v2, rfl⟩ | ⟨v2, rfl⟩⟩
   all_goals
    go_enter Tryz.func77, Tryz.ntmps77
    go_wp2
    go_ret
    exact unhide HF _ rfl
#print axioms rdigit_any
end Go.Proofs.YtbnbngmnoffmkaaGreatDoor
end
section
set_option linter.unusedVariables false
set_option maxRecDepth 1000000
namespace Go.Proofs.YtbnbngmnoffmkaaGreatDoor
open Go.RowKit

/-- append(bytes, bytes that were just made) in a plain region: where it lies. -/
theorem wp_appL (w : World) {ops : Array Oper} {rest : List Oper} {o : Oper} {a : Act} {Q : Exit → Act → World → Prop} (hgd : o.guard = none) (s x : Operand)
  (ho : o.op = .call { callee := .builtin .append, args := #[s, x], argTypes := #[50, 50] })
  (base : Nat) (a1 : Option Addr) (cap1 : Nat) (l1 : List UInt8) (hs : a.eval s = .slice a1 l1.length cap1) (hown : OwnB w base a1 cap1 l1)
  (ad : Addr) (cap2 : Nat) (l2 : List UInt8) (n2 : Nat) (hx : a.eval x = .slice (some ad) n2 cap2) (hn2 : n2 = l2.length) (h0 : 0 < l2.length) (hsrc : Row w (some ad) l2)
  (hlen : l1.length + l2.length ≤ 140737488355328) (hbase : base ≤ w.heap.size)
  (h : ∀ g cap r w', Hid (r = l1 ++ l2) → Hid (OwnB w' base (some ⟨g, 0, none⟩) cap r) → Hid (w.grownBy w' (blk a1)) → Hid (blk a1 = some g ∨ g = w.heap.size) → wpList Tryz.prog ops Q rest (a.put o.dst (.slice (some ⟨g, 0, none⟩) r.length cap)) w') : wpList Tryz.prog ops Q (o :: rest) a w := by
 subst hn2
 obtain ⟨i, hi, hz0, hz1, hz2⟩ := info_parts Tryz.infoB
 refine wpList_append_lies w hgd s x 50 ho base 5 i (.int .u8 0) 1 1 Tryz.underlying50 hi hz0 hz1 hz2 rfl (by decide) _ _ _ hs hown ad l2.length cap2 (bs l2) hx (by simp [bs_length]) ?_ (bs_one l2) h0 (by unfold maxLen; omega) (by omega) hbase _ rfl ?_
 ·intro j u hu
  have hj : j < l2.length := by
   have := (List.getElem?_eq_some_iff.1 hu).1
   simpa [bs_length] using this
  obtain ⟨b, off, hh, hc⟩ := hsrc (by intro e; subst e; simp at hj)
  obtain rfl := Option.some.inj hh
  rw [bs_get l2 j hj] at hu
  obtain rfl := Option.some.inj hu
  rw [addr_add]
  exact hc j hj
 ·intro g cap w' h1 h2 h3 _
  have hblk : (Value.slice a1 l1.length cap1).ownBlock = blk a1 := by cases a1 <;> rfl
  rw [hblk] at h2 h3
  have e1 : l1.length + l2.length = (l1 ++ l2).length := by simp
  have e2 : bs l1 ++ bs l2 = bs (l1 ++ l2) := (bs_append l1 l2).symm
  rw [e1, e2] at h1
  have := h g cap (l1 ++ l2) w' rfl h1 h2 h3
  rwa [← e1] at this
section
variable {w : World} {g : Nat → Nat} {P base : Nat} {m : Mc} {la : Option Addr} {lc : Nat} {vk vn : Int} {vt : List UInt8} {va1 : Option Addr} {vn1 vc1 : Nat} {va2 : Option Addr} {vn2 vc2 : Nat} {ta : Option Addr} {tc : Nat} {ca : Option Addr} {cc : Nat} {fs : List Value}
def tagB (g : Nat → Nat) (G t : Nat) : Nat → Nat := fun k => if k = G then t else g k
theorem tagB_at (g : Nat → Nat) (G t : Nat) : tagB g G t G = t := by simp [tagB]
theorem tagB_ne {g : Nat → Nat} {G t k : Nat} (h : k ≠ G) : tagB g G t k = g k := by simp [tagB, h]
/-- Bytes more in the text. -/
theorem MS.app (h : MS w g P base m la lc vk vn vt va1 vn1 vc1 va2 vn2 vc2 ta tc ca cc fs) {u w3 w4 : World} {G cap : Nat} {r : List UInt8} (hb : Below w.heap.size w u) (ho : OwnB w3 base (some ⟨G, 0, none⟩) cap r) (hg : u.grownBy w3 (blk ta)) (hat : blk ta = some G ∨ G = u.heap.size)
  (e4 : w4 = w3.setCell ⟨P, 8, none⟩ (.slice (some ⟨G, 0, none⟩) r.length cap)) :
  MS w4 (tagB g G 3) P base { m with text := r } la lc vk vn vt va1 vn1 vc1 va2 vn2 vc2 (some ⟨G, 0, none⟩) cap ca cc fs ∧ Kq w w4 g (tagB g G 3) (fun t => t ≠ 1 ∧ t ≠ 3) := by
 have hu := h.below hb
 have hPG : P ≠ G := by
  rintro rfl
  rcases hat with e | e
  ·exact h.ne.1 P e rfl
  ·have := h.lt; have := hb.size; omega
 have hk3 : ∀ k, k < u.heap.size → blk ta ≠ some k → w3.heap[k]? = u.heap[k]? := fun k hk hn => hg.block k hk (fun e => hn e.symm)
 have hk4 : ∀ k, k ≠ P → w4.heap[k]? = w3.heap[k]? := fun k hk => by rw [e4]; exact Below.heap_setCell _ ⟨P, 8, none⟩ _ k hk
 have hs4 : w4.heap.size = w3.heap.size := by rw [e4]; simp
 have hsz : u.heap.size ≤ w4.heap.size := by rw [hs4]; exact hg.size
 obtain ⟨o1, o2, o3⟩ : w4.os = w3.os ∧ w4.tape = w3.tape ∧ w4.output = w3.output := by rw [e4]; exact ⟨(Mv.set w3 P 8 _).os, (Mv.set w3 P 8 _).tape, (Mv.set w3 P 8 _).output⟩
 have K : Kq w w4 g (tagB g G 3) (fun t => t ≠ 1 ∧ t ≠ 3) := by
  refine ⟨(o1.trans hg.os).trans hb.os, (o2.trans hg.tape).trans hb.tape, (o3.trans hg.output).trans hb.output, Nat.le_trans hb.size hsz, fun k hk ht => ?_⟩
  have hkG : k ≠ G := by
   rintro rfl
   rcases hat with e | e
   ·exact ht.2 (h.tt k e)
   ·have := hb.size; omega
  have hkP : k ≠ P := fun e => ht.1 (by rw [e]; exact h.tP)
  refine ⟨tagB_ne hkG, (hk4 k hkP).trans ((hk3 k (Nat.lt_of_lt_of_le hk hb.size) (fun e => ht.2 (h.tt k e))).trans (hb.block k hk))⟩
 have row3 : w3.heap[P]? = some (mcO m la lc vk vn vt va1 vn1 vc1 va2 vn2 vc2 ta tc ca cc) := (hk3 P hu.lt (fun e => h.ne.1 P e rfl)).trans hu.row
 refine ⟨h.re (m' := { m with text := r }) (K.mono (fun t ht => ⟨ht.1, ht.2.1⟩)) rfl ?_ (jv_kq K (by omega) h.jv) ?_ ?_ ?_ ?_ ?_, K⟩
 ·rw [e4]; exact heap_setCell_same _ _ _ _ _ _ row3
 ·exact owns_same ho (fun k hk => hk4 k (by have : G = k := (by simpa [blk] using hk); omega))
 ·exact owns_same h.ch (fun k hk => (K.tag k (owns_lt h.ch k hk).2 (by rw [h.th k hk]; omega)).2)
 ·rw [tagB_ne hPG]; exact h.tP
 ·intro k hk
  have : G = k := by simpa [blk] using hk
  subst this
  exact tagB_at _ _ _
 ·intro k hk
  exact (K.tag k (owns_lt h.ch k hk).2 (by rw [h.th k hk]; omega)).1.trans (h.th k hk)
end
#print axioms MS.app
/-- The bytes that put appends: each by its shift. -/
theorem en_of {n : Nat} : (n < 128 → enB n = [UInt8.ofNat n]) ∧ (¬ n < 128 → n < 2048 → enB n = [UInt8.ofNat (192 + n / 64), UInt8.ofNat (128 + n % 64)]) ∧ (¬ n < 128 → ¬ n < 2048 → n < 65536 → enB n = [UInt8.ofNat (224 + n / 4096), UInt8.ofNat (128 + n / 64 % 64), UInt8.ofNat (128 + n % 64)]) ∧ (¬ n < 128 → ¬ n < 2048 → ¬ n < 65536 → enB n = [UInt8.ofNat (240 + n / 262144), UInt8.ofNat (128 + n / 4096 % 64), UInt8.ofNat (128 + n / 64 % 64), UInt8.ofNat (128 + n % 64)]) := by
 unfold enB
 refine ⟨fun h => by rw [if_pos h], fun h1 h2 => by rw [if_neg h1, if_pos h2], fun h1 h2 h3 => by rw [if_neg h1, if_neg h2, if_pos h3], fun h1 h2 h3 => by rw [if_neg h1, if_neg h2, if_neg h3]⟩
theorem u8m {x : Nat} (h : x < 256) : ((UInt8.ofNat x).toNat : Int) = (x : Int) := by simp; omega
theorem wr8 {x : Nat} (h : x < 256) : IntKind.u8.wrap (x : Int) = (x : Int) := by simp [IntKind.wrap, IntKind.bits, IntKind.signed]; omega
end Go.Proofs.YtbnbngmnoffmkaaGreatDoor
end
section
set_option linter.unusedVariables false
set_option maxRecDepth 1000000
namespace Go.Proofs.YtbnbngmnoffmkaaGreatDoor
open Go.RowKit

section
variable {w : World} {g : Nat → Nat} {P base : Nat} {m : Mc} {la : Option Addr} {lc : Nat} {vk vn : Int} {vt : List UInt8} {va1 : Option Addr} {vn1 vc1 : Nat} {va2 : Option Addr} {vn2 vc2 : Nat} {ta : Option Addr} {tc : Nat} {ca : Option Addr} {cc : Nat} {fs : List Value}
theorem mc_len {m : Mc} {l0 : List Opn} {o o' : Opn} (e : m.l = l0 ++ [o]) : (l0 ++ [o']).length = m.l.length := by rw [e]; simp
theorem MS.top (h : MS w g P base m la lc vk vn vt va1 vn1 vc1 va2 vn2 vc2 ta tc ca cc fs) {l0 : List Opn} {o o' : Opn} (e : m.l = l0 ++ [o]) {w6 : World} {g' : Nat → Nat} {fs' : List Value}
  (K : Kq w w6 g g' (fun t => t ≠ 2 ∧ t ≠ 10 + 2 * l0.length ∧ t ≠ 11 + 2 * l0.length)) (hlo : w6.ownsRow base 112 6 (.slice la m.l.length lc) m.l.length fs') (hsame : ∀ r, r < l0.length * 6 → fs'[r]? = fs[r]?)
  (hop : OpX w6 g' base l0.length o' (fun r => fs'[l0.length * 6 + r]?)) (htl : ∀ k, blk la = some k → g' k = 2) :
  MS w6 g' P base { m with l := l0 ++ [o'] } la lc vk vn vt va1 vn1 vc1 va2 vn2 vc2 ta tc ca cc fs' := by
 have hlen : (l0 ++ [o']).length = m.l.length := mc_len e
 have kP := K.tag P h.lt (by rw [h.tP]; omega)
 refine ⟨?_, jv_kq K (by omega) h.jv, ?_, fun i p hi => ?_, ?_, ?_, kP.1.trans h.tP, htl, fun k hk => ?_, fun k hk => ?_, h.bP⟩
 ·rw [kP.2, h.row]; unfold mcO; rw [hlen]
 ·show w6.ownsRow _ _ _ (.slice la (l0 ++ [o']).length lc) (l0 ++ [o']).length fs'
  rw [hlen]; exact hlo
 ·have hi' : (l0 ++ [o'])[i]? = some p := hi
  by_cases hlt : i < l0.length
  ·rw [List.getElem?_append_left hlt] at hi'
   have hel := h.el i p (by rw [e, List.getElem?_append_left hlt]; exact hi')
   exact op_same (op_kq K (by omega) ⟨by omega, by omega, by omega⟩ ⟨by omega, by omega, by omega⟩ hel) (fun r hr => hsame _ (by omega))
  ·have hil := (List.getElem?_eq_some_iff.1 hi').1
   simp at hil
   obtain rfl : i = l0.length := by omega
   simp at hi'
   subst hi'
   exact hop
 ·exact owns_same h.tx (fun k hk => (K.tag k (owns_lt h.tx k hk).2 (by rw [h.tt k hk]; omega)).2)
 ·exact owns_same h.ch (fun k hk => (K.tag k (owns_lt h.ch k hk).2 (by rw [h.th k hk]; omega)).2)
 ·exact (K.tag k (owns_lt h.tx k hk).2 (by rw [h.tt k hk]; omega)).1.trans (h.tt k hk)
 ·exact (K.tag k (owns_lt h.ch k hk).2 (by rw [h.th k hk]; omega)).1.trans (h.th k hk)
/-- An item more in the last one. -/
theorem MS.pushI (h : MS w g P base m la lc vk vn vt va1 vn1 vc1 va2 vn2 vc2 ta tc ca cc fs) {l0 : List Opn} {o : Opn} (e : m.l = l0 ++ [o]) {L : Nat} (eL : la = some ⟨L, 0, none⟩) {a1 : Option Addr} {d1 : Nat} {a2 : Option Addr} {d2 : Nat} {xs : List Value}
  (hc : fs[l0.length * 6]? = some (.int .i64 o.k) ∧ fs[l0.length * 6 + 1]? = some (.int .i64 0) ∧ fs[l0.length * 6 + 2]? = some (.string (str [])) ∧ fs[l0.length * 6 + 3]? = some (.slice a1 o.ns.length d1) ∧ fs[l0.length * 6 + 5]? = some (.string (str o.nm)))
  (hT : OwnT w base a1 d1 o.ns) (hJ : OwnJ w base a2 d2 o.is.length xs) (t1 : ∀ k, blk a1 = some k → g k = 10 + 2 * l0.length) (t2 : ∀ k, blk a2 = some k → g k = 11 + 2 * l0.length)
  (hE : ∀ q j, o.is[q]? = some j → ∃ v, At5 xs q v ∧ JV w (Zt g w) v j) {v0 v1 v2 v3 v4 : Value} {j : Js} (hv : JV w (Zt g w) (.agg #[v0, v1, v2, v3, v4]) j)
  {u w2 w6 : World} {G cap : Nat} (hb : Below w.heap.size w u) (hg : u.grownBy w2 (blk a2)) (hat : blk a2 = some G ∨ (w.heap.size ≤ G ∧ u.heap.size ≤ G)) (hJ6 : OwnJ w6 base (some ⟨G, 0, none⟩) cap (o.is.length + 1) (xs ++ [v0, v1, v2, v3, v4]))
  (hk : ∀ k, k ≠ G → k ≠ L → w6.heap[k]? = w2.heap[k]?) (hs : w2.heap.size ≤ w6.heap.size) (ho : w6.os = w2.os ∧ w6.tape = w2.tape ∧ w6.output = w2.output)
  (hlo : w6.ownsRow base 112 6 (.slice la m.l.length lc) m.l.length (fs.set (l0.length * 6 + 4) (.slice (some ⟨G, 0, none⟩) (o.is.length + 1) cap))) (hfl : l0.length * 6 + 4 < fs.length) :
  MS w6 (tagB g G (11 + 2 * l0.length)) P base { m with l := l0 ++ [{ o with is := o.is ++ [j] }] } la lc vk vn vt va1 vn1 vc1 va2 vn2 vc2 ta tc ca cc (fs.set (l0.length * 6 + 4) (.slice (some ⟨G, 0, none⟩) (o.is.length + 1) cap)) ∧ Kq w w6 g (tagB g G (11 + 2 * l0.length)) (fun t => t ≠ 2 ∧ t ≠ 11 + 2 * l0.length) := by
 have hLt : g L = 2 := h.tl L (by rw [eL]; rfl)
 have hLlt : L < w.heap.size := (owns_lt h.lo L (by rw [eL]; rfl)).2
 have hGL : L ≠ G := by
  rintro rfl
  rcases hat with k | k
  ·have := t2 L k; omega
  ·omega
 have hsz : w.heap.size ≤ w6.heap.size := Nat.le_trans hb.size (Nat.le_trans hg.size hs)
 have K : Kq w w6 g (tagB g G (11 + 2 * l0.length)) (fun t => t ≠ 2 ∧ t ≠ 11 + 2 * l0.length) := by
  refine ⟨(ho.1.trans hg.os).trans hb.os, (ho.2.1.trans hg.tape).trans hb.tape, (ho.2.2.trans hg.output).trans hb.output, hsz, fun k hkl ht => ?_⟩
  have hkG : k ≠ G := by
   rintro rfl
   rcases hat with q | q
   ·exact ht.2 (t2 k q)
   ·omega
  have hkL : k ≠ L := fun q => ht.1 (by rw [q]; exact hLt)
  exact ⟨tagB_ne hkG, (hk k hkG hkL).trans ((hg.block k (Nat.lt_of_lt_of_le hkl hb.size) (fun q => ht.2 (t2 k q.symm))).trans (hb.block k hkl))⟩
 refine ⟨h.top e (K.mono (fun t ht => ⟨ht.1, ht.2.2⟩)) hlo (fun r hr => List.getElem?_set_ne (by omega)) ?_ (fun k hk => ?_), K⟩
 ·have hxl : xs.length = o.is.length * 5 := hJ.1
  refine ⟨a1, d1, some ⟨G, 0, none⟩, cap, xs ++ [v0, v1, v2, v3, v4], ?_, ?_, ?_, ?_, ?_, ?_, ?_, ?_, fun k hk => ?_, fun k hk => ?_, fun q x hx => ?_⟩
  ·show (fs.set (l0.length * 6 + 4) _)[l0.length * 6 + 0]? = _
   rw [List.getElem?_set_ne (by omega)]; exact hc.1
  ·show (fs.set (l0.length * 6 + 4) _)[l0.length * 6 + 1]? = _
   rw [List.getElem?_set_ne (by omega)]; exact hc.2.1
  ·show (fs.set (l0.length * 6 + 4) _)[l0.length * 6 + 2]? = _
   rw [List.getElem?_set_ne (by omega)]; exact hc.2.2.1
  ·show (fs.set (l0.length * 6 + 4) _)[l0.length * 6 + 3]? = _
   rw [List.getElem?_set_ne (by omega)]; exact hc.2.2.2.1
  ·show (fs.set (l0.length * 6 + 4) _)[l0.length * 6 + 4]? = some (.slice _ (o.is ++ [j]).length cap)
   rw [List.getElem?_set_self hfl, List.length_append]; rfl
  ·show (fs.set (l0.length * 6 + 4) _)[l0.length * 6 + 5]? = _
   rw [List.getElem?_set_ne (by omega)]; exact hc.2.2.2.2
  ·exact owns_same hT (fun k hk => (K.tag k (owns_lt hT k hk).2 (by rw [t1 k hk]; omega)).2)
  ·show OwnJ w6 base (some ⟨G, 0, none⟩) cap (o.is ++ [j]).length _
   rw [List.length_append]; exact hJ6
  ·exact (K.tag k (owns_lt hT k hk).2 (by rw [t1 k hk]; omega)).1.trans (t1 k hk)
  ·have : G = k := by simpa [blk] using hk
   subst this
   exact tagB_at _ _ _
  ·have hx' : (o.is ++ [j])[q]? = some x := hx
   by_cases hq : q < o.is.length
   ·rw [List.getElem?_append_left hq] at hx'
    obtain ⟨v, ⟨z0, z1, z2, z3, z4, ez, q0, q1, q2, q3, q4⟩, p2⟩ := hE q x hx'
    refine ⟨v, ⟨z0, z1, z2, z3, z4, ez, ?_, ?_, ?_, ?_, ?_⟩, jv_kq K (by omega) p2⟩
    ·rw [List.getElem?_append_left (by omega)]; exact q0
    ·rw [List.getElem?_append_left (by omega)]; exact q1
    ·rw [List.getElem?_append_left (by omega)]; exact q2
    ·rw [List.getElem?_append_left (by omega)]; exact q3
    ·rw [List.getElem?_append_left (by omega)]; exact q4
   ·have hlt := (List.getElem?_eq_some_iff.1 hx').1
    simp at hlt
    obtain rfl : q = o.is.length := by omega
    simp at hx'
    subst hx'
    refine ⟨_, ⟨v0, v1, v2, v3, v4, rfl, ?_, ?_, ?_, ?_, ?_⟩, jv_kq K (by omega) hv⟩
    ·rw [List.getElem?_append_right (by omega), show o.is.length * 5 - xs.length = 0 by omega]; rfl
    ·rw [List.getElem?_append_right (by omega), show o.is.length * 5 + 1 - xs.length = 1 by omega]; rfl
    ·rw [List.getElem?_append_right (by omega), show o.is.length * 5 + 2 - xs.length = 2 by omega]; rfl
    ·rw [List.getElem?_append_right (by omega), show o.is.length * 5 + 3 - xs.length = 3 by omega]; rfl
    ·rw [List.getElem?_append_right (by omega), show o.is.length * 5 + 4 - xs.length = 4 by omega]; rfl
 ·have hkL : k = L := by rw [eL] at hk; simpa [blk] using hk.symm
  subst hkL
  rw [tagB_ne hGL]; exact hLt
/-- A name more in the last one. -/
theorem MS.pushN (h : MS w g P base m la lc vk vn vt va1 vn1 vc1 va2 vn2 vc2 ta tc ca cc fs) {l0 : List Opn} {o : Opn} (e : m.l = l0 ++ [o]) {L : Nat} (eL : la = some ⟨L, 0, none⟩) {a1 : Option Addr} {d1 : Nat} {a2 : Option Addr} {d2 : Nat} {xs : List Value}
  (hc : fs[l0.length * 6]? = some (.int .i64 o.k) ∧ fs[l0.length * 6 + 1]? = some (.int .i64 0) ∧ fs[l0.length * 6 + 2]? = some (.string (str [])) ∧ fs[l0.length * 6 + 4]? = some (.slice a2 o.is.length d2) ∧ fs[l0.length * 6 + 5]? = some (.string (str o.nm)))
  (hT : OwnT w base a1 d1 o.ns) (hJ : OwnJ w base a2 d2 o.is.length xs) (t1 : ∀ k, blk a1 = some k → g k = 10 + 2 * l0.length) (t2 : ∀ k, blk a2 = some k → g k = 11 + 2 * l0.length)
  (hE : ∀ q j, o.is[q]? = some j → ∃ v, At5 xs q v ∧ JV w (Zt g w) v j)
  {u w2 w6 : World} {G cap : Nat} (hb : Below w.heap.size w u) (hg : u.grownBy w2 (blk a1)) (hat : blk a1 = some G ∨ (w.heap.size ≤ G ∧ u.heap.size ≤ G)) (hT6 : OwnT w6 base (some ⟨G, 0, none⟩) cap (o.ns ++ [o.nm]))
  (hk : ∀ k, k ≠ L → w6.heap[k]? = w2.heap[k]?) (hs : w2.heap.size ≤ w6.heap.size) (ho : w6.os = w2.os ∧ w6.tape = w2.tape ∧ w6.output = w2.output)
  (hlo : w6.ownsRow base 112 6 (.slice la m.l.length lc) m.l.length (fs.set (l0.length * 6 + 3) (.slice (some ⟨G, 0, none⟩) (o.ns.length + 1) cap))) (hfl : l0.length * 6 + 3 < fs.length) :
  MS w6 (tagB g G (10 + 2 * l0.length)) P base { m with l := l0 ++ [{ o with ns := o.ns ++ [o.nm] }] } la lc vk vn vt va1 vn1 vc1 va2 vn2 vc2 ta tc ca cc (fs.set (l0.length * 6 + 3) (.slice (some ⟨G, 0, none⟩) (o.ns.length + 1) cap)) ∧ Kq w w6 g (tagB g G (10 + 2 * l0.length)) (fun t => t ≠ 2 ∧ t ≠ 10 + 2 * l0.length) := by
 have hLt : g L = 2 := h.tl L (by rw [eL]; rfl)
 have hLlt : L < w.heap.size := (owns_lt h.lo L (by rw [eL]; rfl)).2
 have hGL : L ≠ G := by
  rintro rfl
  rcases hat with k | k
  ·have := t1 L k; omega
  ·omega
 have hsz : w.heap.size ≤ w6.heap.size := Nat.le_trans hb.size (Nat.le_trans hg.size hs)
 have K : Kq w w6 g (tagB g G (10 + 2 * l0.length)) (fun t => t ≠ 2 ∧ t ≠ 10 + 2 * l0.length) := by
  refine ⟨(ho.1.trans hg.os).trans hb.os, (ho.2.1.trans hg.tape).trans hb.tape, (ho.2.2.trans hg.output).trans hb.output, hsz, fun k hkl ht => ?_⟩
  have hkG : k ≠ G := by
   rintro rfl
   rcases hat with q | q
   ·exact ht.2 (t1 k q)
   ·omega
  have hkL : k ≠ L := fun q => ht.1 (by rw [q]; exact hLt)
  exact ⟨tagB_ne hkG, (hk k hkL).trans ((hg.block k (Nat.lt_of_lt_of_le hkl hb.size) (fun q => ht.2 (t1 k q.symm))).trans (hb.block k hkl))⟩
 refine ⟨h.top e (K.mono (fun t ht => ⟨ht.1, ht.2.1⟩)) hlo (fun r hr => List.getElem?_set_ne (by omega)) ?_ (fun k hk => ?_), K⟩
 ·refine ⟨some ⟨G, 0, none⟩, cap, a2, d2, xs, ?_, ?_, ?_, ?_, ?_, ?_, ?_, ?_, fun k hk => ?_, fun k hk => ?_, fun q x hx => ?_⟩
  ·show (fs.set (l0.length * 6 + 3) _)[l0.length * 6 + 0]? = _
   rw [List.getElem?_set_ne (by omega)]; exact hc.1
  ·show (fs.set (l0.length * 6 + 3) _)[l0.length * 6 + 1]? = _
   rw [List.getElem?_set_ne (by omega)]; exact hc.2.1
  ·show (fs.set (l0.length * 6 + 3) _)[l0.length * 6 + 2]? = _
   rw [List.getElem?_set_ne (by omega)]; exact hc.2.2.1
  ·show (fs.set (l0.length * 6 + 3) _)[l0.length * 6 + 3]? = some (.slice _ (o.ns ++ [o.nm]).length cap)
   rw [List.getElem?_set_self hfl, List.length_append]; rfl
  ·show (fs.set (l0.length * 6 + 3) _)[l0.length * 6 + 4]? = _
   rw [List.getElem?_set_ne (by omega)]; exact hc.2.2.2.1
  ·show (fs.set (l0.length * 6 + 3) _)[l0.length * 6 + 5]? = _
   rw [List.getElem?_set_ne (by omega)]; exact hc.2.2.2.2
  ·exact hT6
  ·exact owns_same hJ (fun k hk => (K.tag k (owns_lt hJ k hk).2 (by rw [t2 k hk]; omega)).2)
  ·have : G = k := by simpa [blk] using hk
   subst this
   exact tagB_at _ _ _
  ·exact (K.tag k (owns_lt hJ k hk).2 (by rw [t2 k hk]; omega)).1.trans (t2 k hk)
  ·obtain ⟨v, p1, p2⟩ := hE q x hx
   exact ⟨v, p1, jv_kq K (by omega) p2⟩
 ·have hkL : k = L := by rw [eL] at hk; simpa [blk] using hk.symm
  subst hkL
  rw [tagB_ne hGL]; exact hLt
end
#print axioms MS.pushI
#print axioms MS.pushN
end Go.Proofs.YtbnbngmnoffmkaaGreatDoor
end
