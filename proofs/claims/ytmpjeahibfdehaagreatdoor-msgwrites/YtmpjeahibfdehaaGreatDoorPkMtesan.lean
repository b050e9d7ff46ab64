/-
  jsonx: character.
-/
import Derived.Test.YtmpjeahibfdehaaGreatDoorPkMtesaf
import Derived.Test.YtmpjeahibfdehaaGreatDoorPkMtesam
import Derived.Lib.ConvBytes
section
set_option linter.unusedVariables false
set_option maxRecDepth 1000000
namespace Go.Proofs.YtmpjeahibfdehaaGreatDoor
open Go.RowKit

theorem to_b4 (l : List UInt8) (w : World) (hl : l.length ≤ 300000) : ∃ V c, (convert 9 80 (.string (str l))).run Tryz.prog w = .ok (.slice (some ⟨w.heap.size, 0, none⟩) l.length c) V ∧ Below w.heap.size w V ∧ Bs V (some ⟨w.heap.size, 0, none⟩) c l := by
 have hge := grownCap_ge w (str l).size 0 5
 have hle := grownCap_le_maxLen w (str l).size 0 5 (by rw [str_size]; unfold maxLen; omega)
 rw [str_size] at hge hle
 refine ⟨Lib.bytesWorld w 5 (str l), grownCap w (str l).size 0 5, ?_, ?_, ?_⟩
 ·have := Lib.run_convert_string_bytes (P := Tryz.prog) w 9 80 5 (str l) Tryz.underlying9 Tryz.underlying80 Tryz.underlying5
  rw [this, str_size]
 ·exact ⟨rfl, rfl, rfl, by rw [Lib.bytesWorld_size]; omega, fun k hk => Lib.bytesWorld_at_old w _ _ k hk⟩
 ·rw [str_size]
  refine ⟨fun _ => ⟨w.heap.size, 0, rfl, fun i hi => ?_⟩, by omega, hle, fun h => by cases h⟩
  rw [Nat.zero_add, Lib.bytesWorld_cell w _ (str l) i (by rw [str_size]; exact hi)]
  rfl
theorem part4 (T : List UInt8) (a b : Nat) (c : UInt8) (hab : a ≤ b) (hb : T[b]? = some c) : (str T).extract a (b + 1) = str ((T.drop a).take (b - a) ++ [c]) := by
 have e := ByteArray.extract_mk T a (b + 1)
 have hlt := (List.getElem?_eq_some_iff.1 hb).1
 refine e.trans ?_
 show str ((T.drop a).take (b + 1 - a)) = _
 congr 1
 rw [show b + 1 - a = (b - a) + 1 by omega, List.take_add_one]
 congr 1
 rw [List.getElem?_drop, show a + (b - a) = b by omega, hb]
 rfl
theorem ch_neg (l : List UInt8) : (chI l < 0 ↔ chr l = none) := by
 unfold chI
 cases h : chr l with
 | none => simp
 | some n => simp
set_option maxHeartbeats 4000000 in
theorem character_any (P : Nat) (T : List UInt8) (a d : Nat) (w : World) (h : Pa w P T a d) :
  Calls Tryz.prog 143 #[.pointer (some ⟨P, 0, none⟩)] w fun e w' => Po (fun p val _ => val = .string (str p)) T w P d (chM (T.drop a)) e w' := by
 have hbig := h.big
 obtain ⟨c0, c1, c2, cf⟩ := h.cells
 have hle := h.le
 have HP := hide h
 have hsz : (str T).size = T.length := rfl
 obtain ⟨RES, hRES⟩ : ∃ RES, RES = chM (T.drop a) := ⟨_, rfl⟩
 rw [← hRES]
 have HRES : Hid (RES = chL ((T.drop a).take (a - a)) (T.drop a)) := by show _ = _; rw [hRES, Nat.sub_self, List.take_zero]; rfl
 clear h hRES c2 cf c0
 go_enter Tryz.func143, Tryz.ntmps143
 go_wp2_with fail
 clear c1
 go_loopw [4] (fun _ wr => ∃ (a' : Nat), a ≤ a' ∧ Hid (Pa wr P T a' d) ∧ Hid (Mv w wr P) ∧ Hid (RES = chL ((T.drop a).take (a' - a)) (T.drop a'))) (fun _ wr => 70000 - (match wr.cell? ⟨P, 1, none⟩ with | some (.int .i64 x) => x.toNat | _ => 0))
 case atStart => exact ⟨a, Nat.le_refl _, HP, Mv.refl _ _, HRES⟩
 case round =>
  clear HRES HP
  obtain ⟨a', haa, HPr, HMr, HS⟩ := hrel
  have hle' := (uh HPr).le
  obtain ⟨c0, c1, c2, cf⟩ := (uh HPr).cells
  have hcl := c1
  cases hl : T.drop a' with
  | nil =>
   have ha' := drop_nil hl hle'
   have hlt' : ¬ (a' : Int) < (T.length : Int) := by omega
   have HE : Hid (RES = .no (T.drop a') 40) := by show _ = _; rw [uh HS, hl]; cases (T.drop a).take (a' - a) <;> rfl
   clear cf c2 hl ha'
   go_wp2_with fail
   go_quiet (fail)
   have HPn := hide ((uh HPr).below (bdj (Below.refl _ _) nq))
   have HMn : Hid (Mv w (wr.drewN nq) P) := (uh HMr).trans (Mv.ofB (bdj (Below.refl _ _) nq))
   generalize wr.drewN nq = y at *
   have HG := hide (giveUp_any P T a' d 40 y (uh HPn))
   go_wp2_with fail
   refine (uh HG).mono ?_
   rintro e w5 ⟨rfl, hw5⟩
   subst hw5
   exact ⟨rfl, Po.nay (uh HE) hle' (uh HMn)⟩
  | cons c r =>
   obtain ⟨hlt, hget, hdr⟩ := drop_cons hl
   have hlt' : (a' : Int) < (T.length : Int) := by omega
   have hpt := part4 T a a' c haa hget
   have hl2 : ((T.drop a).take (a' - a) ++ [c]).length ≤ 65536 := by simp; omega
   have hne2 : (T.drop a).take (a' - a) ++ [c] ≠ [] := by simp
   have htk : (T.drop a).take (a' + 1 - a) = (T.drop a).take (a' - a) ++ [c] := by
    rw [show a' + 1 - a = (a' - a) + 1 by omega, List.take_add_one]
    congr 1
    rw [List.getElem?_drop, show a + (a' - a) = a' by omega, hget]
    rfl
   have hst : chL ((T.drop a).take (a' - a)) (c :: r) = if fuB ((T.drop a).take (a' - a) ++ [c]) then (if chr ((T.drop a).take (a' - a) ++ [c]) = none then .ok ((T.drop a).take (a' - a) ++ [c]) r else .no (c :: r) 40) else chL ((T.drop a).take (a' - a) ++ [c]) r := rfl
   rw [hl, hst] at HS
   generalize (T.drop a).take (a' - a) ++ [c] = pt at *
   have hsl : ∀ w, (Instr.slice 9 (.string (str T)) (some (.int .i64 (a : Int))) (some (.int .i64 ((a' : Int) + 1))) none).run Tryz.prog w = .ok (.string (str pt)) w := fun w => by
    rw [run_slice_string w 9 (str T) .i64 .i64 (a : Int) ((a' : Int) + 1) Tryz.underlying9 (by omega) (by omega) (by rw [hsz]; omega)]
    rw [← hpt]
    congr 3
   clear hst hget hpt cf c2
   go_wp2_with fail
   go_quiet (fail)
   have HPn := hide ((uh HPr).below (bdj (Below.refl _ _) nq))
   have HMn : Hid (Mv w (wr.drewN nq) P) := (uh HMr).trans (Mv.ofB (bdj (Below.refl _ _) nq))
   generalize wr.drewN nq = y at *
   clear c0 c1
   obtain ⟨c0, c1, c2, cf⟩ := (uh HPn).cells
   clear cf c2
   go_wp2_with fail
   go_quiet (fail)
   have HPm := hide ((uh HPn).below (bdj (Below.refl _ _) nq))
   have HMm : Hid (Mv w (y.drewN nq) P) := (uh HMn).trans (Mv.ofB (bdj (Below.refl _ _) nq))
   generalize y.drewN nq = z at *
   have HF := hide (full4 pt z (uh HPm).tb hne2 hl2)
   clear c0 c1 hsl
   go_wp2_with fail
   refine (uh HF).mono ?_
   rintro e w1 ⟨rfl, HB1⟩
   have HP1 := hide ((uh HPm).below (uh HB1))
   have HM1 : Hid (Mv w w1 P) := (uh HMm).trans (Mv.ofB (uh HB1))
   cases hf : fuB pt with
   | false =>
    rw [hf] at HS
    have HE : Hid (RES = chL ((T.drop a).take (a' + 1 - a)) (T.drop (a' + 1))) := by show _ = _; rw [uh HS, htk, hdr]; rfl
    obtain ⟨c0, c1, c2, cf⟩ := (uh HP1).cells
    have f1 := cf 1
    obtain ⟨k1, k2⟩ := (uh HP1).inc hlt
    have HP7 := hide k1
    have HM7 : Hid (Mv w (w1.setCell ⟨P, 1, none⟩ (.int .i64 ((a' : Int) + 1))) P) := (uh HM1).trans k2
    clear HF cf c0 c2 k1 k2
    go_wp2_with fail
    go_roundw
    case rel => exact ⟨a' + 1, by omega, HP7, HM7, HE⟩
    case measure =>
     have e1 := (uh HP7).cells.2.1
     rw [hcl, e1]
     simp only
     omega
   | true =>
    rw [hf] at HS
    simp only [if_true] at HS
    obtain ⟨V, cc, hcv, hbv, hbs⟩ := to_b4 pt w1 (by omega)
    have HPv := hide ((uh HP1).below hbv)
    have HMv : Hid (Mv w V P) := (uh HM1).trans (Mv.ofB hbv)
    have HC := hide (chars_any (some ⟨w1.heap.size, 0, none⟩) pt.length cc pt V (uh HPv).tb hbs rfl (by omega))
    have hng := ch_neg pt
    obtain ⟨X, hX⟩ : ∃ X, chI pt = X := ⟨_, rfl⟩
    rw [hX] at HC hng
    clear HF hbv hbs hX
    by_cases hx : X < 0
    ·rw [if_pos (hng.1 hx)] at HS
     have HE : Hid (RES = .ok pt (T.drop (a' + 1))) := by show _ = _; rw [uh HS, hdr]
     clear hng
     go_wp2_with fail
     refine (uh HC).mono ?_
     rintro e w2 ⟨rfl, hb2⟩
     have HP2 := hide ((uh HPv).below hb2)
     have HM2 : Hid (Mv w w2 P) := (uh HMv).trans (Mv.ofB hb2)
     obtain ⟨c0, c1, c2, cf⟩ := (uh HP2).cells
     have f1 := cf 1
     obtain ⟨k1, k2⟩ := (uh HP2).inc hlt
     have HP7 := hide k1
     have HM7 : Hid (Mv w (w2.setCell ⟨P, 1, none⟩ (.int .i64 ((a' : Int) + 1))) P) := (uh HM2).trans k2
     clear HC cf c0 c2 k1 k2 hb2 hcv
     go_wp2_with fail
     go_ret
     exact Po.yes (uh HE) (uh HP7) (uh HM7) rfl
    ·have hcn : ¬ chr pt = none := fun e => hx (hng.2 e)
     rw [if_neg hcn] at HS
     have HE : Hid (RES = .no (T.drop a') 40) := by show _ = _; rw [uh HS, hl]
     clear hng hcn
     go_wp2_with fail
     refine (uh HC).mono ?_
     rintro e w2 ⟨rfl, hb2⟩
     have HP2 := hide ((uh HPv).below hb2)
     have HM2 : Hid (Mv w w2 P) := (uh HMv).trans (Mv.ofB hb2)
     have HG := hide (giveUp_any P T a' d 40 w2 (uh HP2))
     clear HC hb2 hcv
     go_wp2_with fail
     refine (uh HG).mono ?_
     rintro e w5 ⟨rfl, hw5⟩
     subst hw5
     exact ⟨rfl, Po.nay (uh HE) hle' (uh HM2)⟩
end Go.Proofs.YtmpjeahibfdehaaGreatDoor
end
