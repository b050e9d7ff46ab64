/-
  jsonx: the document's own Quote.
-/
import Derived.Test.YtmpjeahibfdehaaGreatDoorPkMtesaw
import Derived.Test.YtmpjeahibfdehaaGreatDoorPkMtesbo
section
set_option linter.unusedVariables false
set_option maxRecDepth 1000000
namespace Go.Proofs.YtmpjeahibfdehaaGreatDoor
open Go.RowKit

theorem qtA_len : ∀ l : List UInt8, (qtA l).length ≤ 6 * l.length
 | [] => by simp [qtA]
 | c :: r => by
  have h := qtA_len r
  have h2 := qc_len c
  unfold qtA at h ⊢
  rw [List.flatMap_cons, List.length_append, List.length_cons]
  omega
theorem qtA_snoc {s : List UInt8} {i : Nat} {c : UInt8} (h : s[i]? = some c) : qtA (s.take (i + 1)) = qtA (s.take i) ++ qcB c := by
 rw [List.take_add_one, h]
 unfold qtA
 simp
set_option maxHeartbeats 8000000 in
theorem rquote_any (s : List UInt8) (w : World) (hs : s.length ≤ 10000000) :
  Calls Tryz.prog 84 #[.string (str s)] w fun e w' => e = .returned (.string (str (quo s))) ∧ Hid (Below w.heap.size w w') := by
 have hsz : (str s).size = s.length := rfl
 have HOL : Hid (OwnB (w.alloc (.cells #[.int .u8 34] 5)) w.heap.size (some ⟨w.heap.size, 0, none⟩) 1 [34]) := own_lit w _ _ 34 (Nat.le_refl _) rfl
 have HBL : ∀ o, Hid (Below w.heap.size w (w.alloc o)) := fun o => hide ((Below.refl _ _).alloc (Nat.le_refl _) o)
 go_enter Tryz.func84, Tryz.ntmps84
 go_wp2_with fail
 go_loopw [9, 3] (fun v o wr => ∃ (i : Nat) (a : Option Addr) (c9 : Nat) (r : List UInt8), i ≤ s.length ∧ v = .int .i64 (i : Int) ∧ o = .slice a r.length c9 ∧ r.length ≤ 1 + 6 * i ∧ Hid (r = 34 :: qtA (s.take i)) ∧ Hid (OwnB wr w.heap.size a c9 r) ∧ Hid (Below w.heap.size w wr)) (fun v _ _ => s.length - (intOf v).toNat)
 case atStart => exact ⟨0, _, 1, [34], Nat.zero_le _, rfl, rfl, by simp, by show _ = _; simp [qtA], HOL, HBL _⟩
 case round =>
  clear HOL HBL
  obtain ⟨i, a, c9, r, hi, rfl, rfl, hrl, HQ, HO, HB⟩ := hrel
  by_cases hlt : i < s.length
  ·obtain ⟨c, hc⟩ : ∃ c, s[i]? = some c := ⟨_, List.getElem?_eq_getElem hlt⟩
   have hlt' : (i : Int) < (s.length : Int) := by omega
   have hix0 := fun w => run_ix4 w s i c hc
   have hqt := qtA_snoc hc
   have hc256 := c.toNat_lt
   clear hc
   by_cases hq : c = 34 ∨ c = 92
   ·have EQ : qcB c = [92, c] := by unfold qcB; rw [if_pos hq]
    by_cases h34 : c = 34
    ·have q34 : ((c.toNat : Int) == 34) = true := by rw [h34]; rfl
     clear h34 hq
     have HOV : ∀ o, Hid (OwnB (wr.alloc o) w.heap.size a c9 r) := fun o => hide ((uh HO).alloc o)
     have HRV : ∀ m, Hid (Row (wr.alloc (.cells #[.int .u8 92, .int .u8 (c.toNat : Int)] 5 m)) (some ⟨wr.heap.size, 0, none⟩) [92, c]) := fun m => hide (litR wr _ [92, c] m rfl)
     have HLB : Hid (r.length + [92, c].length ≤ 140737488355328) := by show _ ≤ _; simp only [List.length_cons, List.length_nil]; omega
     have HBV : ∀ o, Hid (w.heap.size ≤ (wr.alloc o).heap.size) := fun o => by have := (uh HB).size; show _ ≤ _; simp; omega
     have HBW : ∀ o, Hid (Below w.heap.size w (wr.alloc o)) := fun o => hide ((uh HB).alloc (uh HB).size o)
     go_wp2_with (refine wp_app _ rfl _ _ rfl w.heap.size a c9 r rfl ?_ (some ⟨wr.heap.size, 0, none⟩) 2 [92, c] 2 rfl rfl ?_ ?_ ?_ ?_ ?_; exact uh (HOV _); exact uh (HRV _); exact (fun e => by cases e); exact uh HLB; exact uh (HBV _); intro a3 c3 r3 w5 hr hO3 hg3; have HO3 := hide hO3; have HG3 := hide hg3; clear hO3 hg3)
     have hb5 : Below w.heap.size w w5 := below_grown (uh (HBW _)) (uh HG3) (Nat.le_refl _) (fun k hk => ((uh (HOV (.cells #[] 5))).lt k hk).1)
     have HB5 := hide hb5
     have HQ5 : Hid (r3 = 34 :: qtA (s.take (i + 1))) := by show _ = _; rw [uh hr, uh HQ, hqt, EQ]; simp
     have hl5 : r3.length ≤ 1 + 6 * (i + 1) := by rw [uh HQ5, List.length_cons]; have := qtA_len (s.take (i + 1)); rw [List.length_take] at this; omega
     clear hb5
     go_wp2_with fail
     go_roundw
     case rel => exact ⟨i + 1, a3, c3, r3, by omega, by go_num, rfl, hl5, HQ5, HO3, HB5⟩
     case measure => simp [intOf]; omega
    ·have q34 : ((c.toNat : Int) == 34) = false := by simp; intro e; exact h34 (UInt8.toNat_inj.1 (by show c.toNat = 34; omega))
     have q92 : ((c.toNat : Int) == 92) = true := by rw [hq.resolve_left h34]; rfl
     clear h34 hq
     have HOV : ∀ o, Hid (OwnB (wr.alloc o) w.heap.size a c9 r) := fun o => hide ((uh HO).alloc o)
     have HRV : ∀ m, Hid (Row (wr.alloc (.cells #[.int .u8 92, .int .u8 (c.toNat : Int)] 5 m)) (some ⟨wr.heap.size, 0, none⟩) [92, c]) := fun m => hide (litR wr _ [92, c] m rfl)
     have HLB : Hid (r.length + [92, c].length ≤ 140737488355328) := by show _ ≤ _; simp only [List.length_cons, List.length_nil]; omega
     have HBV : ∀ o, Hid (w.heap.size ≤ (wr.alloc o).heap.size) := fun o => by have := (uh HB).size; show _ ≤ _; simp; omega
     have HBW : ∀ o, Hid (Below w.heap.size w (wr.alloc o)) := fun o => hide ((uh HB).alloc (uh HB).size o)
     go_wp2_with (refine wp_app _ rfl _ _ rfl w.heap.size a c9 r rfl ?_ (some ⟨wr.heap.size, 0, none⟩) 2 [92, c] 2 rfl rfl ?_ ?_ ?_ ?_ ?_; exact uh (HOV _); exact uh (HRV _); exact (fun e => by cases e); exact uh HLB; exact uh (HBV _); intro a3 c3 r3 w5 hr hO3 hg3; have HO3 := hide hO3; have HG3 := hide hg3; clear hO3 hg3)
     have hb5 : Below w.heap.size w w5 := below_grown (uh (HBW _)) (uh HG3) (Nat.le_refl _) (fun k hk => ((uh (HOV (.cells #[] 5))).lt k hk).1)
     have HB5 := hide hb5
     have HQ5 : Hid (r3 = 34 :: qtA (s.take (i + 1))) := by show _ = _; rw [uh hr, uh HQ, hqt, EQ]; simp
     have hl5 : r3.length ≤ 1 + 6 * (i + 1) := by rw [uh HQ5, List.length_cons]; have := qtA_len (s.take (i + 1)); rw [List.length_take] at this; omega
     clear hb5
     go_wp2_with fail
     go_roundw
     case rel => exact ⟨i + 1, a3, c3, r3, by omega, by go_num, rfl, hl5, HQ5, HO3, HB5⟩
     case measure => simp [intOf]; omega
   ·have q34 : ((c.toNat : Int) == 34) = false := by simp; intro e; exact hq (.inl (UInt8.toNat_inj.1 (by show c.toNat = 34; omega)))
    have q92 : ((c.toNat : Int) == 92) = false := by simp; intro e; exact hq (.inr (UInt8.toNat_inj.1 (by show c.toNat = 92; omega)))
    by_cases hq2 : c.toNat < 32
    ·have q32 : (c.toNat : Int) < 32 := by omega
     have EQ : qcB c = [92, 117, 48, 48, hxD (c.toNat / 16), hxD (c.toNat % 16)] := by unfold qcB; rw [if_neg hq, if_pos hq2]
     obtain ⟨I1, hI1⟩ : ∃ I1, I1 = c.toNat / 16 := ⟨_, rfl⟩
     obtain ⟨I2, hI2⟩ : ∃ I2, I2 = c.toNat % 16 := ⟨_, rfl⟩
     have y1 : (c.toNat : Int) / 16 = (I1 : Int) := by omega
     have y2 : (c.toNat : Int) % 16 = (I2 : Int) := by omega
     have y3 : (c.toNat : Int).tdiv 16 = (I1 : Int) := by rw [hI1]; exact (Int.ofNat_tdiv c.toNat 16).symm
     have y4 : (c.toNat : Int).tmod 16 = (I2 : Int) := by rw [Int.tmod_eq_emod_of_nonneg (by omega)]; exact y2
     have y5 : IntKind.u8.wrap (I1 : Int) = (I1 : Int) := by simp [IntKind.wrap, IntKind.bits, IntKind.signed]; omega
     have x1 := hix I1 (by omega)
     have x2 := hix I2 (by omega)
     rw [← hI1, ← hI2] at EQ
     obtain ⟨d1, hd1⟩ : ∃ d1, d1 = hxD I1 := ⟨_, rfl⟩
     obtain ⟨d2, hd2⟩ : ∃ d2, d2 = hxD I2 := ⟨_, rfl⟩
     rw [← hd1] at EQ x1
     rw [← hd2] at EQ x2
     have hI16 : I1 < 16 ∧ I2 < 16 := by omega
     clear hI1 hI2 hd1 hd2 hq hq2
     have HLA : Hid (r.length + (⟨#[92, 117, 48, 48]⟩ : ByteArray).size ≤ 140737488355328) := by show r.length + 4 ≤ _; omega
     have HSB : Hid (w.heap.size ≤ wr.heap.size) := (uh HB).size
     go_wp2_with (refine wp_apps _ rfl _ _ rfl w.heap.size a c9 r rfl ?_ ⟨#[92, 117, 48, 48]⟩ rfl ?_ ?_ ?_; exact uh HO; exact uh HLA; exact uh HSB; intro a2 c2 r2 w2 hr2 hO2 hg2; have HO2 := hide hO2; have HG2 := hide hg2; clear hO2 hg2)
     have HR2 : Hid (r2 = r ++ [92, 117, 48, 48]) := hr2
     have HRL : Hid (r2.length ≤ 5 + 6 * i) := by show _ ≤ _; rw [uh HR2]; simp; omega
     have HB2 : Hid (Below w.heap.size w w2) := below_grown (uh HB) (uh HG2) (Nat.le_refl _) (fun k hk => ((uh HO).lt k hk).1)
     clear HO HB HG2 hr2 HLA HSB
     have HOV : ∀ o, Hid (OwnB (w2.alloc o) w.heap.size a2 c2 r2) := fun o => hide ((uh HO2).alloc o)
     have HRV : ∀ m, Hid (Row (w2.alloc (.cells #[.int .u8 (d1.toNat : Int), .int .u8 (d2.toNat : Int)] 5 m)) (some ⟨w2.heap.size, 0, none⟩) [d1, d2]) := fun m => hide (litR w2 _ [d1, d2] m rfl)
     have HLB : Hid (r2.length + [d1, d2].length ≤ 140737488355328) := by show _ ≤ _; have := uh HRL; simp only [List.length_cons, List.length_nil]; omega
     have HBV : ∀ o, Hid (w.heap.size ≤ (w2.alloc o).heap.size) := fun o => by have := (uh HB2).size; show _ ≤ _; simp; omega
     have HBW : ∀ o, Hid (Below w.heap.size w (w2.alloc o)) := fun o => hide ((uh HB2).alloc (uh HB2).size o)
     obtain ⟨V, hV⟩ : ∃ V, V = (w2.alloc (.cells #[.int .u8 (d1.toNat : Int), .int .u8 (d2.toNat : Int)] 5)).drew := ⟨_, rfl⟩
     have HOD : Hid (OwnB V w.heap.size a2 c2 r2) := by rw [hV]; exact hide ((uh HO2).below (bA _).drew (Nat.le_refl _))
     have HRD : Hid (Row V (some ⟨w2.heap.size, 0, none⟩) [d1, d2]) := by rw [hV]; exact hide (litR w2 _ [d1, d2] (0, 0) rfl)
     have HbV : Hid (Below w.heap.size w V) := by rw [hV]; exact hide ((uh HB2).alloc (uh HB2).size _).drew
     have HBD : Hid (w.heap.size ≤ V.heap.size) := (uh HbV).size
     clear HOV HRV HBV HBW
     go_wp2_with fail
     go_region_law (rw [← hV]; refine stp_app2 _ rfl _ _ rfl w.heap.size a2 c2 r2 _ rfl rfl (uh HOD) (some ⟨w2.heap.size, 0, none⟩) 2 [d1, d2] _ rfl rfl (uh HRD) (fun e => by cases e) (uh HLB) (uh HBD) ?_; intro a3 c3 r3 w5 hr HO3 HG3 hloc3)
     all_goals
      have hb5 : Below w.heap.size w w5 := below_grown (uh HbV) (uh HG3) (Nat.le_refl _) (fun k hk => ((uh HOD).lt k hk).1)
      have HB5 := hide hb5
      have HQ5 : Hid (r3 = 34 :: qtA (s.take (i + 1))) := by show _ = _; rw [uh hr, uh HR2, uh HQ, hqt, EQ]; simp
      have hl5 : r3.length ≤ 1 + 6 * (i + 1) := by rw [uh HQ5, List.length_cons]; have := qtA_len (s.take (i + 1)); rw [List.length_take] at this; omega
      clear hb5
      go_wp2_with fail
      go_roundw
      case rel => exact ⟨i + 1, a3, c3, r3, by omega, by go_num, rfl, hl5, HQ5, HO3, HB5⟩
      case measure => simp [intOf]; omega
    ·have q32 : ¬ (c.toNat : Int) < 32 := by omega
     have EQ : qcB c = [c] := by unfold qcB; rw [if_neg hq, if_neg hq2]
     clear hq hq2
     have HOV : ∀ o, Hid (OwnB (wr.alloc o) w.heap.size a c9 r) := fun o => hide ((uh HO).alloc o)
     have HRV : ∀ m, Hid (Row (wr.alloc (.cells #[.int .u8 (c.toNat : Int)] 5 m)) (some ⟨wr.heap.size, 0, none⟩) [c]) := fun m => hide (litR wr _ [c] m rfl)
     have HLB : Hid (r.length + [c].length ≤ 140737488355328) := by show _ ≤ _; simp only [List.length_cons, List.length_nil]; omega
     have HBV : ∀ o, Hid (w.heap.size ≤ (wr.alloc o).heap.size) := fun o => by have := (uh HB).size; show _ ≤ _; simp; omega
     have HBW : ∀ o, Hid (Below w.heap.size w (wr.alloc o)) := fun o => hide ((uh HB).alloc (uh HB).size o)
     go_wp2_with (refine wp_app _ rfl _ _ rfl w.heap.size a c9 r rfl ?_ (some ⟨wr.heap.size, 0, none⟩) 1 [c] 1 rfl rfl ?_ ?_ ?_ ?_ ?_; exact uh (HOV _); exact uh (HRV _); exact (fun e => by cases e); exact uh HLB; exact uh (HBV _); intro a3 c3 r3 w5 hr hO3 hg3; have HO3 := hide hO3; have HG3 := hide hg3; clear hO3 hg3)
     have hb5 : Below w.heap.size w w5 := below_grown (uh (HBW _)) (uh HG3) (Nat.le_refl _) (fun k hk => ((uh (HOV (.cells #[] 5))).lt k hk).1)
     have HB5 := hide hb5
     have HQ5 : Hid (r3 = 34 :: qtA (s.take (i + 1))) := by show _ = _; rw [uh hr, uh HQ, hqt, EQ]; simp
     have hl5 : r3.length ≤ 1 + 6 * (i + 1) := by rw [uh HQ5, List.length_cons]; have := qtA_len (s.take (i + 1)); rw [List.length_take] at this; omega
     clear hb5
     go_wp2_with fail
     go_roundw
     case rel => exact ⟨i + 1, a3, c3, r3, by omega, by go_num, rfl, hl5, HQ5, HO3, HB5⟩
     case measure => simp [intOf]; omega
  ·have hlt' : ¬ (i : Int) < (s.length : Int) := by omega
   have HQL : Hid (quo s = r ++ [34]) := by
    show _ = _
    rw [uh HQ, List.take_of_length_le (by omega)]
    unfold quo
    simp
   have HOV : ∀ o, Hid (OwnB (wr.alloc o) w.heap.size a c9 r) := fun o => hide ((uh HO).alloc o)
   have HRV : ∀ m, Hid (Row (wr.alloc (.cells #[.int .u8 34] 5 m)) (some ⟨wr.heap.size, 0, none⟩) [34]) := fun m => hide (litR wr _ [34] m rfl)
   have HLB : Hid (r.length + [34].length ≤ 140737488355328) := by show _ ≤ _; simp only [List.length_cons, List.length_nil]; omega
   have HBV : ∀ o, Hid (w.heap.size ≤ (wr.alloc o).heap.size) := fun o => by have := (uh HB).size; show _ ≤ _; simp; omega
   have HBW : ∀ o, Hid (Below w.heap.size w (wr.alloc o)) := fun o => hide ((uh HB).alloc (uh HB).size o)
   go_wp2_with (refine wp_app _ rfl _ _ rfl w.heap.size a c9 r rfl ?_ (some ⟨wr.heap.size, 0, none⟩) 1 [34] 1 rfl rfl ?_ ?_ ?_ ?_ ?_; exact uh (HOV _); exact uh (HRV _); exact (fun e => by cases e); exact uh HLB; exact uh (HBV _); intro a3 c3 r3 w5 hr hO3 hg3; have HO3 := hide hO3; have HG3 := hide hg3; have hst := run_str w5 a3 r3.length c3 r3 hO3.toBs.row rfl; clear hO3 hg3)
   have hb5 : Below w.heap.size w w5 := below_grown (uh (HBW _)) (uh HG3) (Nat.le_refl _) (fun k hk => ((uh (HOV (.cells #[] 5))).lt k hk).1)
   have HF := hide hb5
   have HR3 : Hid (r3 = quo s) := by show _ = _; rw [uh HQL]; exact uh hr
   clear hb5
   go_ret
   rw [← uh HR3]
   exact ⟨rfl, HF⟩
end Go.Proofs.YtmpjeahibfdehaaGreatDoor
end
