/-
  THE WALK of the reference's first (cut around its two tests).
-/
import Derived.Test.YtmpjeahibfdehaaGreatDoorPkMtesae
import Derived.Test.YtmpjeahibfdehaaGreatDoorPkMtesad
import Derived.Deep.RegionWith
import Derived.Deep.DeepCutAuto
import Derived.Deep.Cut
import Derived.Deep.CutRange
section
set_option linter.unusedVariables false
namespace Go.Proofs.YtmpjeahibfdehaaGreatDoor
open Go.RowKit

def pt (n : Nat) (l : List UInt8) : Nat → Nat
 | 0 => (if n = 1 then (l.getD 0 0).toNat else (l.getD 0 0).toNat % 2 ^ (7 - n))
 | k + 1 => 64 * pt n l k + (l.getD (k + 1) 0).toNat % 64
theorem pt_lt (n : Nat) (l : List UInt8) (k : Nat) (hk : k ≤ 3) : pt n l k < 67108864 := by
 have h0 : pt n l 0 < 256 := by
  unfold pt
  have := (l.getD 0 0).toNat_lt
  split
  ·omega
  ·have := Nat.mod_le (l.getD 0 0).toNat (2 ^ (7 - n)); omega
 have e1 : pt n l 1 = 64 * pt n l 0 + (l.getD 1 0).toNat % 64 := rfl
 have e2 : pt n l 2 = 64 * pt n l 1 + (l.getD 2 0).toNat % 64 := rfl
 have e3 : pt n l 3 = 64 * pt n l 2 + (l.getD 3 0).toNat % 64 := rfl
 have h1 : pt n l 1 < 16384 := by omega
 have h2 : pt n l 2 < 1048576 := by omega
 have h3 : pt n l 3 < 67108864 := by omega
 match k, hk with
 | 0, _ => omega
 | 1, _ => omega
 | 2, _ => omega
 | 3, _ => exact h3
 | k + 4, hk => omega
theorem pt_fval (n : Nat) (l : List UInt8) (h1 : 1 ≤ n) (h4 : n ≤ 4) : pt n l (n - 1) = fval n l := by
 match n, h1, h4 with
 | 1, _, _ => rfl
 | 2, _, _ => simp [pt, fval, v2]; omega
 | 3, _, _ => simp [pt, fval, v3]; omega
 | 4, _, _ => simp [pt, fval, v4]; omega
 | n + 5, _, h4 => omega

theorem ok_next {l : List UInt8} {n : Nat} (HN : ∀ m, 1 ≤ m → m < n → m ≤ l.length → ¬ Okn m l) (h : ¬ Okn n l) : ∀ m, 1 ≤ m → m < n + 1 → m ≤ l.length → ¬ Okn m l := by
 intro m h1 h2 h3
 by_cases e : m = n
 ·subst e; exact h
 ·exact HN m h1 (by omega) h3

theorem char_here (b off cap n V : Nat) (l E T : List UInt8) (w wr : World) (hV : V ≤ 1114111) (hE : encL V = E) (hT : l.take n = T) (hn : n ≤ l.length) (hr : Row w (some ⟨b, off, none⟩) l) (hb : Below w.heap.size w wr) :
  Calls Tryz.prog 202 #[.int .i64 (V : Int)] wr fun e w' => ∃ a', e = .returned (.slice a' E.length E.length) ∧ Hid (Below w.heap.size w w') ∧ (convert 80 9 (.slice a' E.length E.length)).run Tryz.prog w' = .ok (.string (str E)) w' ∧ (convert 80 9 (.slice (some ⟨b, off, none⟩) n cap)).run Tryz.prog w' = .ok (.string (str T)) w' := by
 subst hE hT
 refine (char_any V wr hV).mono ?_
 rintro e w' ⟨a', rfl, hr', hb'⟩
 have hW := hb.trans (hb'.mono hb.size)
 exact ⟨a', rfl, hW, run_str w' a' _ _ _ hr' rfl, run_str w' (some ⟨b, off, none⟩) n cap (l.take n) ((hr.below hW (Nat.le_refl _)).take n) (by simp; omega)⟩

set_option maxRecDepth 1000000 in
set_option maxHeartbeats 8000000 in
theorem first_any (b off cap : Nat) (l : List UInt8) (w : World) (hr : Row w (some ⟨b, off, none⟩) l) (hne : l ≠ []) (hle : l.length ≤ cap) (hl : l.length ≤ 50000000) (hcm : cap ≤ maxLen) :
  Calls Tryz.prog 173 #[.slice (some ⟨b, off, none⟩) l.length cap] w fun e w' => e = .returned (.int .i64 ((fst l : Nat) : Int)) ∧ Below w.heap.size w w' := by
 unfold maxLen at hcm
 have hpos : 1 ≤ l.length := List.length_pos_iff.2 hne
 have Hcell : Hid (∀ (wr : World), Below w.heap.size w wr → ∀ i, i < l.length → wr.cell? ⟨b, off + i, none⟩ = some (.int .u8 ((l.getD i 0).toNat : Int))) := by
  intro wr hb i hi
  obtain ⟨b', off', hh, hc⟩ := (hr.below hb (Nat.le_refl _)) hne
  obtain ⟨rfl, rfl⟩ : b = b' ∧ off = off' := by simpa using Option.some.inj hh
  exact hc i hi
 have Hr := hide hr
 have Hne := hide hne
 clear hr hne
 go_enter Tryz.func173, Tryz.ntmps173
 go_wp2
 go_loopw [3] (fun i wr => ∃ n : Nat, 1 ≤ n ∧ n ≤ 5 ∧ i = .int .i64 (n : Int) ∧ Hid (∀ m, 1 ≤ m → m < n → m ≤ l.length → ¬ Okn m l) ∧ Below w.heap.size w wr) (fun i _ => 5 - (intOf i).toNat)
 case atStart => exact ⟨1, by omega, by omega, rfl, fun m h1 h2 => by omega, Below.refl _ _⟩
 case round =>
  obtain ⟨n, hn1, hn5, rfl, HN, hb⟩ := hrel
  by_cases hend : n = 5 ∨ l.length < n
  ·have HF : Hid (fst l = 0) := fst_none l (uh Hne) (fun m h1 h4 hm => uh HN m h1 (by omega) hm)
   clear HN Hcell Hr Hne
   by_cases h5 : n = 5
   ·subst h5
    go_wp2
    go_ret
    exact ⟨ret_int (by rw [uh HF]; rfl), hb⟩
   ·have hlt : l.length < n := by omega
    have hn4 : n ≤ 4 := by omega
    clear hend
    go_wp2
    go_ret
    exact ⟨ret_int (by rw [uh HF]; rfl), hb⟩
  ·have hn4 : n ≤ 4 := by omega
   have hnl : n ≤ l.length := by omega
   clear hend hn5
   have c0 := uh Hcell wr hb 0 (by omega)
   simp only [Nat.add_zero] at c0
   have hA := (l.getD 0 0).toNat_lt
   have hp0 : (n = 1 ∧ (l.getD 0 0).toNat = pt n l 0) ∨ (n = 2 ∧ (l.getD 0 0).toNat % 32 = pt n l 0) ∨ (n = 3 ∧ (l.getD 0 0).toNat % 16 = pt n l 0) ∨ (n = 4 ∧ (l.getD 0 0).toNat % 8 = pt n l 0) := by
    rcases (show n = 1 ∨ n = 2 ∨ n = 3 ∨ n = 4 by omega) with rfl | rfl | rfl | rfl
    ·left; exact ⟨rfl, rfl⟩
    ·right; left; exact ⟨rfl, rfl⟩
    ·right; right; left; exact ⟨rfl, rfl⟩
    ·right; right; right; exact ⟨rfl, rfl⟩
   obtain ⟨A, eA⟩ : ∃ A : UInt8, l.getD 0 0 = A := ⟨_, rfl⟩
   rw [eA] at c0 hA hp0
   obtain ⟨X, eX⟩ : ∃ X : Nat, pt n l 0 = X := ⟨_, rfl⟩
   rw [eX] at hp0
   have HX := hide eX
   clear eA eX
   have hX3 := pt_lt n l 0 (by omega)
   rw [uh HX] at hX3
   obtain ⟨V, hV⟩ : ∃ V : Nat, fval n l = V := ⟨_, rfl⟩
   have HV := hide hV
   have HPV := hide ((pt_fval n l hn1 hn4).trans hV)
   have hVl := pt_lt n l (n - 1) (by omega)
   rw [uh HPV] at hVl
   clear hV
   obtain ⟨E, hE⟩ : ∃ E, encL V = E := ⟨_, rfl⟩
   have HE := hide hE
   obtain ⟨T, hT⟩ : ∃ T, l.take n = T := ⟨_, rfl⟩
   have HT := hide hT
   clear hE hT
   go_upto_if 21 with fail
   go_cut [4] (fun s wx => s = .int .i64 (X : Int) ∧ wx = wr)
   case first =>
    rcases hp0 with ⟨rfl, hx⟩ | ⟨rfl, hx⟩ | ⟨rfl, hx⟩ | ⟨rfl, hx⟩
    ·subst hx
     go_wp2_with fail
     go_meet
     exact ⟨rfl, rfl⟩
    ·have y0 : (A.toNat : Int) % 32 = (X : Int) := by omega
     have z0 : (A.toNat : Int).tmod 32 = (X : Int) := by rw [← hx]; rfl
     go_wp2_with fail
     go_meet
     exact ⟨rfl, rfl⟩
    ·have y0 : (A.toNat : Int) % 16 = (X : Int) := by omega
     have z0 : (A.toNat : Int).tmod 16 = (X : Int) := by rw [← hx]; rfl
     go_wp2_with fail
     go_meet
     exact ⟨rfl, rfl⟩
    ·have y0 : (A.toNat : Int) % 8 = (X : Int) := by omega
     have z0 : (A.toNat : Int).tmod 8 = (X : Int) := by rw [← hx]; rfl
     go_wp2_with fail
     go_meet
     exact ⟨rfl, rfl⟩
   case rest =>
    obtain ⟨rfl, rfl⟩ := hcut
    clear hp0 c0
    go_wp2
    go_loop [4, 5] (fun v i => ∃ k : Nat, 1 ≤ k ∧ k ≤ n ∧ i = .int .i64 (k : Int) ∧ v = .int .i64 ((pt n l (k - 1) : Nat) : Int)) (fun _ i => n - (intOf i).toNat)
    case atStart => exact ⟨1, by omega, by omega, rfl, by rw [show (1 - 1 : Nat) = 0 from rfl, uh HX]⟩
    case round =>
     obtain ⟨k, hk1, hkn, rfl, rfl⟩ := hrel
     by_cases hkl : k < n
     ·have ck := uh Hcell wc hb k (by omega)
      have hB := (l.getD k 0).toNat_lt
      obtain ⟨B, eB⟩ : ∃ B : UInt8, l.getD k 0 = B := ⟨_, rfl⟩
      have hPs : Hid (pt n l (k + 1 - 1) = 64 * pt n l (k - 1) + B.toNat % 64) := by
       show _ = _
       obtain ⟨j, rfl⟩ : ∃ j, k = j + 1 := ⟨k - 1, by omega⟩
       rw [← eB]; rfl
      have hPl := pt_lt n l (k - 1) (by omega)
      rw [eB] at ck hB
      clear eB
      generalize pt n l (k - 1) = P at *
      obtain ⟨x, hx⟩ : ∃ x : Nat, x = B.toNat % 64 := ⟨_, rfl⟩
      have y0 : (B.toNat : Int) % 64 = (x : Int) := by omega
      have z0 : (B.toNat : Int).tmod 64 = (x : Int) := by rw [hx]; rfl
      have hxl : x < 64 := by omega
      have HX2 := hide hx
      clear hx
      go_wp2
      go_round
      case rel => exact ⟨k + 1, by omega, by omega, by go_num, int_eq (by rw [uh hPs, ← uh HX2]; push_cast; rfl)⟩
      case measure => simp [intOf]; omega
     ·obtain rfl : k = n := by omega
      rw [uh HPV]
      clear HPV HX hX3 hkl
      obtain ⟨bad, hbad⟩ : ∃ bad : Bool, bad = decide (1114111 < V ∨ (55296 ≤ V ∧ V < 57344)) := ⟨_, rfl⟩
      have HB := hide hbad
      clear hbad
      obtain ⟨q, hq⟩ : ∃ q, (E == T) = q := ⟨_, rfl⟩
      have HQ := hide hq
      clear hq
      go_upto_region 11 with fail
      go_cut [50] (fun s wx => s = .bool bad ∧ wx = wc)
      case first =>
       rcases (show 1114111 < V ∨ (55296 ≤ V ∧ V < 57344) ∨ V < 55296 ∨ (57344 ≤ V ∧ V ≤ 1114111) by omega) with h1 | ⟨h1, h2⟩ | h1 | ⟨h1, h2⟩
       ·have HBT : Hid (bad = true) := by show _ = _; rw [uh HB]; simp; omega
        go_wp2_with fail
        go_meet
        exact ⟨by rw [uh HBT]; try (congr 1; simp; omega), rfl⟩
       ·have HBT : Hid (bad = true) := by show _ = _; rw [uh HB]; simp; omega
        go_wp2_with fail
        go_meet
        exact ⟨by rw [uh HBT]; try (congr 1; simp; omega), rfl⟩
       ·have HBT : Hid (bad = false) := by show _ = _; rw [uh HB]; simp; omega
        go_wp2_with fail
        go_meet
        exact ⟨by rw [uh HBT]; try (congr 1; simp; omega), rfl⟩
       ·have HBT : Hid (bad = false) := by show _ = _; rw [uh HB]; simp; omega
        go_wp2_with fail
        go_meet
        exact ⟨by rw [uh HBT]; try (congr 1; simp; omega), rfl⟩
      case rest =>
       obtain ⟨rfl, rfl⟩ := hcut
       cases bad with
       | true =>
        have hbv : 1114111 < V ∨ (55296 ≤ V ∧ V < 57344) := by have := uh HB; simpa using this
        have HO : Hid (¬ Okn k l) := by intro h; have h2 := h.2.1; have h3 := h.2.2.1; rw [uh HV] at h2 h3; omega
        have HN2 := hide (ok_next (uh HN) (uh HO))
        clear HN HO HE HV HT HB HQ hbv
        go_wp2
        go_roundw
        case rel =>
         first
          | exact ⟨k + 1, by omega, by omega, by go_num, uh HN2, hb⟩
          | ((repeat apply Exists.intro); exact ⟨⟨k + 1, by omega, by omega, by go_num, uh HN2, hb⟩, rfl⟩)
        case measure => simp [intOf]; omega
       | false =>
        have hbv : ¬ (1114111 < V ∨ (55296 ≤ V ∧ V < 57344)) := by have := uh HB; simpa using this
        have hVm : V ≤ 1114111 := by omega
        have HCH := hide (char_here b off cap k V l E T w wc.drew hVm (uh HE) (uh HT) hnl (uh Hr) hb.drew)
        have cv := run_str wc (some ⟨b, off, none⟩) k cap T (by have := ((uh Hr).below hb (Nat.le_refl _)).take k; rw [uh HT] at this; exact this) (by rw [← uh HT]; simp; omega)
        have cv' := run_str wc.drew (some ⟨b, off, none⟩) k cap T (by have := ((uh Hr).below hb.drew (Nat.le_refl _)).take k; rw [uh HT] at this; exact this) (by rw [← uh HT]; simp; omega)
        go_upto_region 12 with fail
        go_cut [58] (fun s wx => s = .bool q ∧ Below w.heap.size w wx)
        case first =>
         go_region_with (go_at_call 202; refine (uh HCH).mono ?_; rintro e w4 ⟨a4, rfl, hb4, cv4, cv5⟩)
         all_goals (try go_wp2_with fail)
         all_goals go_meet
         all_goals exact ⟨by rw [toList_str, toList_str, uh HQ], uh hb4⟩
        case rest =>
         obtain ⟨rfl, hb4⟩ := hcut
         cases q with
         | true =>
          have hET : E = T := by
           exact eq_of_beq (uh HQ)
          have HF : Hid (fst l = k) := fst_hit k l (uh Hne) (by omega) (by omega) ⟨by omega, by rw [uh HV]; omega, by rw [uh HV]; omega, by rw [uh HV, uh HE, uh HT]; exact hET⟩
          clear HN HE HV HT HB HQ HCH cv cv' hET hbv
          go_wp2
          go_ret
          exact ⟨ret_int (by rw [uh HF]), hb4⟩
         | false =>
          have hET : ¬ E = T := by
           intro e
           have := uh HQ
           rw [e] at this
           simp at this
          have HO : Hid (¬ Okn k l) := by intro h; have h2 := h.2.2.2; rw [uh HV, uh HE, uh HT] at h2; exact hET h2
          have HN2 := hide (ok_next (uh HN) (uh HO))
          clear HN HO HE HV HT HB HQ HCH cv cv' hET hbv
          go_wp2
          go_roundw
          case rel =>
           first
            | exact ⟨k + 1, by omega, by omega, by go_num, uh HN2, hb4⟩
            | ((repeat apply Exists.intro); exact ⟨⟨k + 1, by omega, by omega, by go_num, uh HN2, hb4⟩, rfl⟩)
          case measure => simp [intOf]; omega
end Go.Proofs.YtmpjeahibfdehaaGreatDoor
end
