/-
  httpd's reference: headers as they are sent; Print.
-/
import Derived.Test.YtonaekkenggmbaaGreatDoorPkHadsbc
import Derived.Test.YtonaekkenggmbaaGreatDoorPkHadsbg
import Derived.Test.YtonaekkenggmbaaGreatDoorPkHadsbf
import Derived.Deep.RegionLaw
section
set_option linter.unusedVariables false
set_option maxRecDepth 1000000
namespace Go.Proofs.YtonaekkenggmbaaGreatDoor
open Go.RowKit

set_option maxHeartbeats 2000000 in
theorem rsent (hp : Option Addr) (hc : Nat) (H : List Hd) (w : World) (h : HdR w hp H) (hh : hsz H ≤ 262144) :
    Calls Tryz.prog 52 #[.slice hp H.length hc] w fun e w' => e = .returned (.string (str (H.flatMap hline))) ∧ Hid (Below w.heap.size w w') := by
  have HH := hide h
  have hHl : H.length ≤ 32768 := by have := hsz_len H; omega
  obtain ⟨X, hX⟩ : ∃ X, X = H.flatMap hline := ⟨_, rfl⟩
  rw [← hX]
  have HX := hide hX
  clear h hX
  go_enter Tryz.func52, Tryz.ntmps52
  go_wp2
  go_loopw [3, 8] (fun v i wr => ∃ (o : List UInt8) (k : Nat), v = .string (str o) ∧ i = .int .i64 (k : Int) ∧ k ≤ H.length ∧ Hid (o = (H.take k).flatMap hline) ∧ o.length ≤ 262144 ∧ Hid (Below w.heap.size w wr)) (fun _ i _ => H.length - (intOf i).toNat)
  case atStart => exact ⟨[], 0, rfl, rfl, Nat.zero_le _, rfl, by simp, Below.refl _ _⟩
  case round =>
    obtain ⟨o, k, rfl, rfl, hk, HO, hol, HB⟩ := hrel
    by_cases hlt : k < H.length
    · have hlt' : (k : Int) < (H.length : Int) := by omega
      obtain ⟨d, hd⟩ : ∃ d, H[k]? = some d := ⟨_, List.getElem?_eq_getElem hlt⟩
      obtain ⟨g, off, hpe, hcs⟩ := ((unhide HH).below (unhide HB) (Nat.le_refl _)).mem (by intro e; subst e; simp at hd)
      subst hpe
      obtain ⟨c0, c1⟩ := hcs k d hd
      have hdm := hsz_mem H d (List.mem_of_getElem? hd)
      have HD := hide (hl_step H k d hd)
      have HLT := hide hlt
      have hnl : ((H.take (k + 1)).flatMap hline).length ≤ 262144 := Nat.le_trans (hl_len _) (Nat.le_trans (hsz_take H (k + 1)) hh)
      clear hcs hd
      obtain ⟨x, y⟩ := d
      simp only at c0 c1 hdm
      have e1 : str o ++ str x = str (o ++ x) := str_app o x
      have e2 : str (o ++ x) ++ (⟨#[58, 32]⟩ : ByteArray) = str (o ++ x ++ [58, 32]) := str_app _ [58, 32]
      have e3 : str (o ++ x ++ [58, 32]) ++ str y = str (o ++ x ++ [58, 32] ++ y) := str_app _ y
      have e4 : str (o ++ x ++ [58, 32] ++ y) ++ (⟨#[13, 10]⟩ : ByteArray) = str (o ++ x ++ [58, 32] ++ y ++ [13, 10]) := str_app _ [13, 10]
      have s1 : (str o).size = o.length := str_size o
      have s2 : (str x).size = x.length := str_size x
      have s3 : (str y).size = y.length := str_size y
      have s4 : (str (o ++ x)).size = o.length + x.length := by rw [str_size]; simp
      have s5 : (str (o ++ x ++ [58, 32])).size = o.length + x.length + 2 := by rw [str_size]; simp; omega
      have s6 : (str (o ++ x ++ [58, 32] ++ y)).size = o.length + x.length + 2 + y.length := by rw [str_size]; simp; omega
      have HQ : Hid (o ++ x ++ [58, 32] ++ y ++ [13, 10] = (H.take (k + 1)).flatMap hline) := by
        show _ = _
        rw [unhide HD, ← unhide HO]
        simp [hline]
      have HNL := hide hnl
      clear hnl
      generalize o ++ x ++ [58, 32] ++ y ++ [13, 10] = q4 at *
      generalize o ++ x ++ [58, 32] ++ y = q3 at *
      generalize o ++ x ++ [58, 32] = q2 at *
      generalize o ++ x = q1 at *
      have HBA : Hid (Below w.heap.size w (wr.alloc (.cells #[.string (str x), .string (str y)] 49))) := (unhide HB).trans ((Below.refl _ _).alloc (unhide HB).size _)
      go_wp2
      go_roundw
      case rel =>
        have := unhide HLT
        have hq := unhide HQ
        exact ⟨q4, k + 1, rfl, by go_num, by omega, hq, by rw [hq]; exact unhide HNL, HBA⟩
      case measure => have := unhide HLT; simp [intOf]; omega
    · have hlt' : ¬ (k : Int) < (H.length : Int) := by omega
      obtain rfl : k = H.length := by omega
      have HF : Hid (o = X) := by have := unhide HO; rw [List.take_length] at this; rw [this]; exact (unhide HX).symm
      clear hlt HO
      go_wp2
      go_ret
      exact ⟨by rw [unhide HF]; rfl, HB⟩
#print axioms rsent
set_option maxHeartbeats 4000000 in
theorem rprint (m p : List UInt8) (H : List Hd) (B : List UInt8) (hp bp : Option Addr) (hc bc : Nat) (w : World) (h1 : HdR w hp H) (b1 : Bs w bp bc B) (hT : m.length + p.length + hsz H + B.length ≤ 140737488351232) (hh : hsz H ≤ 262144) :
    Calls Tryz.prog 26 #[.agg #[.string (str m), .string (str p), .slice hp H.length hc, .slice bp B.length bc]] w fun e w' => ∃ a c r, ∃ z : Nat, e = .returned (.tuple #[.slice a r.length c, .int .i64 (z : Int)]) ∧ Hid ((z = 0 ∧ r = prM m p H B ∧ pM r = (⟨m, p, H, B⟩, r.length, 0)) ∨ (z = 1 ∧ r = [] ∧ pM (prM m p H B) ≠ (⟨m, p, H, B⟩, (prM m p H B).length, 0))) ∧ Hid (Bs w' a c r) ∧ Hid (Below w.heap.size w w') := by
  obtain ⟨o, ho⟩ : ∃ o, o = Obj.cells #[.string (str m), .string (str p), .slice hp H.length hc, .slice bp B.length bc] 39 := ⟨_, rfl⟩
  have hHl : H.length ≤ 32768 := by have := hsz_len H; omega
  have hFl := hl_len H
  have HPR : Hid (prM m p H B = m ++ [32] ++ p ++ [32, 72, 84, 84, 80, 47, 49, 46, 49] ++ [13, 10] ++ H.flatMap hline ++ [13, 10] ++ B) := by show _ = _; simp [prM, h11]
  obtain ⟨F, hF⟩ : ∃ F, F = H.flatMap hline := ⟨_, rfl⟩
  rw [← hF] at HPR hFl
  have ka : ∀ w, (Op.stringOp .add (str m) (⟨#[32]⟩ : ByteArray)).run Tryz.prog w = .ok (.string (str (m ++ [32]))) w := fun w => by
    rw [← show str m ++ (⟨#[32]⟩ : ByteArray) = str (m ++ [32]) from str_app m [32]]; exact run_string_add_sum w _ _ (by rw [str_size]; show _ + 1 ≤ _; omega)
  have kb : ∀ w, (Op.stringOp .add (str (m ++ [32])) (str p)).run Tryz.prog w = .ok (.string (str (m ++ [32] ++ p))) w := fun w => by
    rw [← str_app (m ++ [32]) p]; exact run_string_add_sum w _ _ (by rw [str_size, str_size]; simp; omega)
  have kc : ∀ w, (Op.stringOp .add (str (m ++ [32] ++ p)) (⟨#[32, 72, 84, 84, 80, 47, 49, 46, 49]⟩ : ByteArray)).run Tryz.prog w = .ok (.string (str (m ++ [32] ++ p ++ [32, 72, 84, 84, 80, 47, 49, 46, 49]))) w := fun w => by
    rw [← show str (m ++ [32] ++ p) ++ (⟨#[32, 72, 84, 84, 80, 47, 49, 46, 49]⟩ : ByteArray) = str (m ++ [32] ++ p ++ [32, 72, 84, 84, 80, 47, 49, 46, 49]) from str_app _ [32, 72, 84, 84, 80, 47, 49, 46, 49]]; exact run_string_add_sum w _ _ (by rw [str_size]; show _ + 9 ≤ _; simp; omega)
  have kd : ∀ w, (Op.stringOp .add (str (m ++ [32] ++ p ++ [32, 72, 84, 84, 80, 47, 49, 46, 49])) (⟨#[13, 10]⟩ : ByteArray)).run Tryz.prog w = .ok (.string (str (m ++ [32] ++ p ++ [32, 72, 84, 84, 80, 47, 49, 46, 49] ++ [13, 10]))) w := fun w => by
    rw [← show str (m ++ [32] ++ p ++ [32, 72, 84, 84, 80, 47, 49, 46, 49]) ++ (⟨#[13, 10]⟩ : ByteArray) = str (m ++ [32] ++ p ++ [32, 72, 84, 84, 80, 47, 49, 46, 49] ++ [13, 10]) from str_app _ [13, 10]]; exact run_string_add_sum w _ _ (by rw [str_size]; show _ + 2 ≤ _; simp; omega)
  have hq4 : (m ++ [32] ++ p ++ [32, 72, 84, 84, 80, 47, 49, 46, 49] ++ [13, 10]).length = m.length + p.length + 12 := by simp; omega
  generalize m ++ [32] ++ p ++ [32, 72, 84, 84, 80, 47, 49, 46, 49] ++ [13, 10] = q4 at *
  generalize m ++ [32] ++ p ++ [32, 72, 84, 84, 80, 47, 49, 46, 49] = q3 at *
  generalize m ++ [32] ++ p = q2 at *
  generalize m ++ [32] = q1 at *
  have ke : ∀ w, (Op.stringOp .add (str q4) (str F)).run Tryz.prog w = .ok (.string (str (q4 ++ F))) w := fun w => by
    rw [← str_app q4 F]; exact run_string_add_sum w _ _ (by rw [str_size, str_size]; omega)
  have kf : ∀ w, (Op.stringOp .add (str (q4 ++ F)) (⟨#[13, 10]⟩ : ByteArray)).run Tryz.prog w = .ok (.string (str (q4 ++ F ++ [13, 10]))) w := fun w => by
    rw [← show str (q4 ++ F) ++ (⟨#[13, 10]⟩ : ByteArray) = str (q4 ++ F ++ [13, 10]) from str_app _ [13, 10]]; exact run_string_add_sum w _ _ (by rw [str_size]; show _ + 2 ≤ _; simp; omega)
  have kg : ∀ w, (Op.stringOp .add (str (q4 ++ F ++ [13, 10])) (str B)).run Tryz.prog w = .ok (.string (str (q4 ++ F ++ [13, 10] ++ B))) w := fun w => by
    rw [← str_app (q4 ++ F ++ [13, 10]) B]; exact run_string_add_sum w _ _ (by rw [str_size, str_size]; simp; omega)
  have htl : (q4 ++ F ++ [13, 10] ++ B).length ≤ 140737488351260 := by simp; omega
  generalize q4 ++ F ++ [13, 10] ++ B = r3 at *
  generalize q4 ++ F ++ [13, 10] = q6 at *
  generalize q4 ++ F = q5 at *
  have hbU : Below w.heap.size w (w.alloc o) := (Below.refl _ _).alloc (Nat.le_refl _) _
  have hzU : w.heap.size < (w.alloc o).heap.size := by simp
  have hrU : (w.alloc o).heap[w.heap.size]? = some (.cells #[.string (str m), .string (str p), .slice hp H.length hc, .slice bp B.length bc] 39 (0, 0)) := by rw [ho]; exact heap_alloc_new w _
  obtain ⟨U, hU⟩ : ∃ U, U = w.alloc o := ⟨_, rfl⟩
  rw [← hU] at hbU hzU hrU
  have u0 : U.cell? ⟨w.heap.size, 0, none⟩ = some (.string (str m)) := cell_of_row _ _ _ _ _ _ hrU
  have u1 : U.cell? ⟨w.heap.size, 1, none⟩ = some (.string (str p)) := cell_of_row _ _ _ _ _ _ hrU
  have u2 : U.cell? ⟨w.heap.size, 2, none⟩ = some (.slice hp H.length hc) := cell_of_row _ _ _ _ _ _ hrU
  have u3 : U.cell? ⟨w.heap.size, 3, none⟩ = some (.slice bp B.length bc) := cell_of_row _ _ _ _ _ _ hrU
  have hbD : Below w.heap.size w U.drew := below_drewN hbU 1
  have HSN : Hid (Calls Tryz.prog 52 #[.slice hp H.length hc] U.drew fun e w' => e = .returned (.string (str F)) ∧ Hid (Below U.drew.heap.size U.drew w')) := by rw [hF]; exact rsent hp hc H _ (h1.below hbD (Nat.le_refl _)) hh
  have kS := run_str U.drew bp _ bc B (b1.below hbD (Nat.le_refl _)).row rfl
  have HH1 : Hid (HdR w hp H ∧ Bs w bp bc B) := ⟨h1, b1⟩
  have HBD := hide hbD
  have HRU : Hid (U.drew.heap[w.heap.size]? = some (.cells #[.string (str m), .string (str p), .slice hp H.length hc, .slice bp B.length bc] 39 (0, 0)) ∧ w.heap.size < U.drew.heap.size) := ⟨hrU, hzU⟩
  have HTL := hide htl
  rw [ho] at hU
  clear ho hbU hzU hrU hbD h1 b1 hF htl hq4 hFl
  go_enter Tryz.func26, Tryz.ntmps26
  go_upto_region 1 with fail
  rw [← hU]
  clear hU
  go_region_held (fun w' => w'.cell? ⟨w.heap.size, 0, none⟩ = some (.string (str m)) ∧ w'.cell? ⟨w.heap.size, 1, none⟩ = some (.string (str p)) ∧ w'.cell? ⟨w.heap.size, 2, none⟩ = some (.slice hp H.length hc) ∧ w'.cell? ⟨w.heap.size, 3, none⟩ = some (.slice bp B.length bc) ∧ (convert 28 9 (.slice bp B.length bc)).run Tryz.prog w' = .ok (.string (str B)) w') (first | exact S3' | exact S2' | exact ⟨u0, u1, u2, u3, kS⟩ | go_keep) ((first
    | (go_at_call 52; refine (unhide HSN).mono ?_; rintro e w2 ⟨rfl, HB2⟩; have hr2 := ((unhide HB2).block w.heap.size (unhide HRU).2).trans (unhide HRU).1; have HW2 : Hid (Below w.heap.size w w2) := (unhide HBD).trans ((unhide HB2).mono (unhide HBD).size); have kS2 := run_str w2 bp _ bc B ((unhide HH1).2.below (unhide HW2) (Nat.le_refl _)).row rfl; have S2' : w2.cell? ⟨w.heap.size, 0, none⟩ = some (.string (str m)) ∧ w2.cell? ⟨w.heap.size, 1, none⟩ = some (.string (str p)) ∧ w2.cell? ⟨w.heap.size, 2, none⟩ = some (.slice hp H.length hc) ∧ w2.cell? ⟨w.heap.size, 3, none⟩ = some (.slice bp B.length bc) ∧ (convert 28 9 (.slice bp B.length bc)).run Tryz.prog w2 = .ok (.string (str B)) w2 := ⟨cell_of_row _ _ _ _ _ _ hr2, cell_of_row _ _ _ _ _ _ hr2, cell_of_row _ _ _ _ _ _ hr2, cell_of_row _ _ _ _ _ _ hr2, kS2⟩; obtain ⟨V, c, hcv, hbV, hsV, hOV⟩ := to_omg r3 w2 (by have := unhide HTL; omega); have hrv := (hbV.block w.heap.size (Nat.lt_of_lt_of_le (unhide HRU).2 (unhide HB2).size)).trans hr2; have HRV := hide hrv; have HOV := hide hOV; have HWV : Hid (Below w.heap.size w V) := (unhide HW2).trans (hbV.mono (unhide HW2).size); have kS3 := run_str V bp _ bc B ((unhide HH1).2.below (unhide HWV) (Nat.le_refl _)).row rfl; have S3' : V.cell? ⟨w.heap.size, 0, none⟩ = some (.string (str m)) ∧ V.cell? ⟨w.heap.size, 1, none⟩ = some (.string (str p)) ∧ V.cell? ⟨w.heap.size, 2, none⟩ = some (.slice hp H.length hc) ∧ V.cell? ⟨w.heap.size, 3, none⟩ = some (.slice bp B.length bc) ∧ (convert 28 9 (.slice bp B.length bc)).run Tryz.prog V = .ok (.string (str B)) V := ⟨cell_of_row _ _ _ _ _ _ hrv, cell_of_row _ _ _ _ _ _ hrv, cell_of_row _ _ _ _ _ _ hrv, cell_of_row _ _ _ _ _ _ hrv, kS3⟩; clear hr2 hrv hOV hbV hsV HB2)
    | fail))
  have HSV : Hid (w.heap.size < V.heap.size) := (Array.getElem?_eq_some_iff.1 (unhide HRV)).1
  have HR3' : Hid (r3 = prM m p H B) := (unhide HPR).symm
  have HP := hide (rparse (some ⟨w2.heap.size, 0, none⟩) c r3 V (unhide HOV).toBs (by have := unhide HTL; omega))
  rw [rp_pM] at HP
  obtain ⟨P, hP⟩ : ∃ P, P = pM r3 := ⟨_, rfl⟩
  rw [← hP] at HP
  have HPM : Hid (P = pM r3) := hP
  clear hP hcv kS2 S2' kS3 S3' HW2
  have hhl := pM_hl r3
  rw [← unhide HPM] at hhl
  obtain ⟨⟨pm, pp, ph, pb⟩, n, st⟩ := P
  simp only at HP hhl
  go_wp2_with fail
  refine (unhide HP).mono ?_
  rintro e W ⟨hp2, hc2, bp2, bc2, rfl, HRq, HB4⟩
  clear HP
  obtain ⟨o, ho⟩ : ∃ o, o = Obj.cells #[.string (str pm), .string (str pp), .slice hp2 ph.length hc2, .slice bp2 pb.length bc2] 39 := ⟨_, rfl⟩
  have hbU : Below W.heap.size W (W.alloc o) := (Below.refl _ _).alloc (Nat.le_refl _) _
  have hb4 : Below V.heap.size V (W.alloc o) := (unhide HB4).trans (hbU.mono (unhide HB4).size)
  have hwU : Below w.heap.size w (W.alloc o) := (unhide HWV).trans (hb4.mono (unhide HWV).size)
  have hrU := (hb4.block w.heap.size (by have := unhide HSV; omega)).trans (unhide HRV)
  have q0 : (W.alloc o).cell? ⟨w.heap.size, 0, none⟩ = some (.string (str m)) := cell_of_row _ _ _ _ _ _ hrU
  have q1' : (W.alloc o).cell? ⟨w.heap.size, 1, none⟩ = some (.string (str p)) := cell_of_row _ _ _ _ _ _ hrU
  have q2' : (W.alloc o).cell? ⟨w.heap.size, 2, none⟩ = some (.slice hp H.length hc) := cell_of_row _ _ _ _ _ _ hrU
  have q3' : (W.alloc o).cell? ⟨w.heap.size, 3, none⟩ = some (.slice bp B.length bc) := cell_of_row _ _ _ _ _ _ hrU
  have HSM := hide (samq_any pm pp m p ph H pb B hp2 hp bp2 bp hc2 hc bc2 bc (W.alloc o) ((unhide HRq).1.below hbU (Nat.le_refl _)) ((unhide HH1).1.below hwU (Nat.le_refl _)) ((unhide HRq).2.below hbU (Nat.le_refl _)) ((unhide HH1).2.below hwU (Nat.le_refl _)) (by omega))
  have HOU : Hid (Bs (W.alloc o) (some ⟨w2.heap.size, 0, none⟩) c r3) := (unhide HOV).toBs.below hb4 (Nat.le_refl _)
  have HWU := hide hwU
  rw [ho] at q0 q1' q2' q3' HSM HOU HWU
  clear ho hbU hb4 hwU hrU HRq HB4 HOV HWV HSV HRV o
  by_cases hs : st = 0
  · subst hs
    by_cases hn : n = r3.length
    · subst hn
      by_cases he : pm = m ∧ pp = p ∧ ph = H ∧ pb = B
      · rw [decide_eq_true he] at HSM
        have HF : Hid (pM r3 = (⟨m, p, H, B⟩, r3.length, 0)) := by
          show _ = _
          rw [← unhide HPM, he.1, he.2.1, he.2.2.1, he.2.2.2]
        have hnb : ((r3.length : Int) != (r3.length : Int)) = false := by simp
        clear he HPM
        go_wp2_with fail
        refine (unhide HSM).mono ?_
        rintro e V2 ⟨rfl, HBV⟩
        have HBF := hide ((unhide HWU).trans ((unhide HBV).mono (unhide HWU).size))
        have HBsF := hide ((unhide HOU).below (unhide HBV) (Nat.le_refl _))
        clear HSM q0 q1' q2' q3'
        go_wp2_with fail
        go_ret2
        exact ⟨some ⟨w2.heap.size, 0, none⟩, c, r3, 0, rfl, .inl ⟨rfl, unhide HR3', unhide HF⟩, HBsF, HBF⟩
      · rw [decide_eq_false he] at HSM
        have HNN : Hid (pM (prM m p H B) ≠ (⟨m, p, H, B⟩, (prM m p H B).length, 0)) := by
          show _ ≠ _
          rw [← unhide HR3', ← unhide HPM]
          intro e
          simp only [Prod.mk.injEq, Rq.mk.injEq] at e
          first | exact he e.1 | exact he e
        have hnb : ((r3.length : Int) != (r3.length : Int)) = false := by simp
        clear he HPM
        go_wp2_with fail
        refine (unhide HSM).mono ?_
        rintro e V2 ⟨rfl, HBV⟩
        have HBF := hide ((unhide HWU).trans ((unhide HBV).mono (unhide HWU).size))
        clear HSM q0 q1' q2' q3'
        go_wp2_with fail
        go_ret2
        exact ⟨none, 0, [], 1, rfl, .inr ⟨rfl, rfl, unhide HNN⟩, ⟨fun h => absurd rfl h, Nat.zero_le _, Nat.zero_le _, fun _ => rfl⟩, HBF⟩
    · have HNN : Hid (pM (prM m p H B) ≠ (⟨m, p, H, B⟩, (prM m p H B).length, 0)) := by
        show _ ≠ _
        rw [← unhide HR3', ← unhide HPM]
        intro e
        simp only [Prod.mk.injEq, Rq.mk.injEq] at e
        first | exact hn e.2.1 | exact hn e.2
      have hnb : ((n : Int) != (r3.length : Int)) = true := by simp; omega
      have hnb2 : ¬ (n : Int) = (r3.length : Int) := by omega
      clear HSM HPM
      go_wp2_with fail
      go_ret2
      exact ⟨none, 0, [], 1, rfl, .inr ⟨rfl, rfl, unhide HNN⟩, ⟨fun h => absurd rfl h, Nat.zero_le _, Nat.zero_le _, fun _ => rfl⟩, HWU⟩
  · have HNN : Hid (pM (prM m p H B) ≠ (⟨m, p, H, B⟩, (prM m p H B).length, 0)) := by
      show _ ≠ _
      rw [← unhide HR3', ← unhide HPM]
      intro e
      simp only [Prod.mk.injEq, Rq.mk.injEq] at e
      first | exact hs e.2.2 | exact hs e.2
    have hnb : ((st : Int) != 0) = true := by simp; omega
    have hnb2 : ¬ (st : Int) = 0 := by omega
    clear HSM HPM
    go_wp2_with fail
    go_ret2
    exact ⟨none, 0, [], 1, rfl, .inr ⟨rfl, rfl, unhide HNN⟩, ⟨fun h => absurd rfl h, Nat.zero_le _, Nat.zero_le _, fun _ => rfl⟩, HWU⟩
#print axioms rprint
end Go.Proofs.YtonaekkenggmbaaGreatDoor
end
