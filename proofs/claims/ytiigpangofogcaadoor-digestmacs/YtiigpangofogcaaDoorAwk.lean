/-
  THE WALK of the statements' awake: the digests of abc, base64 of a nought.
-/
import Derived.Test.YtiigpangofogcaaDoorB64D
import Derived.Lib.SlBytesConst
set_option linter.unusedVariables false
namespace Go.Proofs.YtiigpangofogcaaDoor
open Go.RowKit

theorem abc_cel (w : World) (o : Nat × Nat) : Row (w.alloc (.cells #[.int .u8 97, .int .u8 98, .int .u8 99] 5 o)) (some ⟨w.heap.size, 0, none⟩) [97, 98, 99] := by
  intro _
  refine ⟨w.heap.size, 0, rfl, fun i hi => ?_⟩
  have hi' : i < 3 := hi
  have hc : ∀ j, (w.alloc (.cells #[.int .u8 97, .int .u8 98, .int .u8 99] 5 o)).cell? ⟨w.heap.size, j, none⟩ = (#[.int .u8 97, .int .u8 98, .int .u8 99] : Array Value)[j]? := fun j => cell_of_row _ _ j _ _ _ (heap_alloc_new w _)
  rw [Nat.zero_add, hc]
  match i, hi' with
  | 0, _ => rfl
  | 1, _ => rfl
  | 2, _ => rfl

theorem abc_bs (w : World) (o : Nat × Nat) : Bs (w.alloc (.cells #[.int .u8 97, .int .u8 98, .int .u8 99] 5 o)) (some ⟨w.heap.size, 0, none⟩) 3 [97, 98, 99] :=
  ⟨abc_cel w o, Nat.le_refl _, by unfold maxLen; decide, fun h => by cases h⟩
theorem abc1 (D : List UInt8) (hD : sha1 [97, 98, 99] = D) (w : World) (o : Nat × Nat) (hT : Tb w) : Calls Tryd.prog 9 #[.slice (some ⟨w.heap.size, 0, none⟩) 3 3] (w.alloc (.cells #[.int .u8 97, .int .u8 98, .int .u8 99] 5 o))
    fun e w' => e = .returned (.agg (bs D).toArray) ∧ Below w.heap.size w w' := by
  have h := sha1_any (some ⟨w.heap.size, 0, none⟩) 3 [97, 98, 99] _ (abc_bs w o) (by decide) (hT.alloc _)
  rw [hD] at h
  refine h.mono ?_
  rintro e w' ⟨rfl, hb⟩
  exact ⟨rfl, ((Below.refl w.heap.size w).alloc (Nat.le_refl _) _).trans (hb.mono (by simp))⟩
theorem abc2 (D : List UInt8) (hD : sha2 [97, 98, 99] = D) (w : World) (o : Nat × Nat) (hT : Tb w) : Calls Tryd.prog 10 #[.slice (some ⟨w.heap.size, 0, none⟩) 3 3] (w.alloc (.cells #[.int .u8 97, .int .u8 98, .int .u8 99] 5 o))
    fun e w' => e = .returned (.agg (bs D).toArray) ∧ Below w.heap.size w w' := by
  have h := sha2_any (some ⟨w.heap.size, 0, none⟩) 3 [97, 98, 99] _ (abc_bs w o) (by decide) (hT.alloc _)
  rw [hD] at h
  refine h.mono ?_
  rintro e w' ⟨rfl, hb⟩
  exact ⟨rfl, ((Below.refl w.heap.size w).alloc (Nat.le_refl _) _).trans (hb.mono (by simp))⟩
theorem zero_b64 (w : World) : Calls Tryd.prog 11 #[.slice (some ⟨w.heap.size, 0, none⟩) 1 1] (w.alloc (.cells #[.int .u8 0] 5))
    fun e w' => e = .returned (.string ⟨#[65, 65, 61, 61]⟩) ∧ Below w.heap.size w w' := by
  have h := base64_any (some ⟨w.heap.size, 0, none⟩) 1 [0] (w.alloc (.cells #[.int .u8 0] 5)) ⟨row_lit w 0 0 rfl, Nat.le_refl _, by unfold maxLen; decide, fun h => by cases h⟩ (by decide)
  rw [b64_zero] at h
  refine h.mono ?_
  rintro e w' ⟨rfl, hb⟩
  exact ⟨rfl, ((Below.refl w.heap.size w).alloc (Nat.le_refl _) _).trans (hb.mono (by simp))⟩

set_option maxRecDepth 1000000 in
set_option maxHeartbeats 4000000 in
theorem awake_core (D E : List UInt8) (hD : D.length = 20) (hE : E.length = 32) (d0 : (D.getD 0 0).toNat = 169) (d1 : (D.getD 1 0).toNat = 153) (d19 : (D.getD 19 0).toNat = 157) (e0 : (E.getD 0 0).toNat = 186) (e1 : (E.getD 1 0).toNat = 120) (e31 : (E.getD 31 0).toNat = 173)
    (h1 : ∀ (w : World) (o : Nat × Nat), Tb w → Calls Tryd.prog 9 #[.slice (some ⟨w.heap.size, 0, none⟩) 3 3] (w.alloc (.cells #[.int .u8 97, .int .u8 98, .int .u8 99] 5 o)) fun e w' => e = .returned (.agg (bs D).toArray) ∧ Below w.heap.size w w')
    (h2 : ∀ (w : World) (o : Nat × Nat), Tb w → Calls Tryd.prog 10 #[.slice (some ⟨w.heap.size, 0, none⟩) 3 3] (w.alloc (.cells #[.int .u8 97, .int .u8 98, .int .u8 99] 5 o)) fun e w' => e = .returned (.agg (bs E).toArray) ∧ Below w.heap.size w w')
    (w : World) (hT : Tb w) : Calls Tryd.prog 4 #[] w fun e w' => e = .returned (.bool true) ∧ Below w.heap.size w w' := by
  have kc := fun (w : World) (C : Array Value) (n c : Nat) => Lib.run_convert_bytes_const (P := Tryd.prog) w 22 5 C n c Tryd.underlying22 Tryd.underlying5
  have HT := hide hT
  have H1 := hide h1
  have H2 := hide h2
  have HD := hide hD
  have HE := hide hE
  have HV := hide (And.intro d0 (And.intro d1 (And.intro d19 (And.intro e0 (And.intro e1 e31)))))
  clear hT h1 h2 hD hE d0 d1 d19 e0 e1 e31
  go_enter Tryd.func4, Tryd.ntmps4
  go_wp2_with (first
    | (go_at_call 9; refine (H1.out w _ HT.out).mono ?_; rintro e w1 ⟨rfl, hb1⟩; have HB1 := hide hb1; have HT1 := hide (HT.out.below hb1 HT.out.big); clear hb1)
    | (go_at_call 10; refine (H2.out w1 _ HT1.out).mono ?_; rintro e w2 ⟨rfl, hb2⟩; have HB2 := hide (HB1.out.trans (hb2.mono HB1.out.size)); clear hb2)
    | (refine wpL_store rfl 31 _ _ rfl _ rfl (bs D) rfl 31 (bs (noughts 20)) ((Cel.newAt' w2 _ _ w2.heap.size _ rfl rfl).alloc _) (by rw [bs_length, bs_length, HD.out]; rfl) (by rw [bs_length, HD.out]; kernel_rfl) (bs_one' _) ?_; intro w3 hC3 hg3; have HC3 := hide hC3; have HR3 := hide ((Cel.newAt' _ 26 (bs (noughts 32)) (w2.heap.size + 1) _ (by simp) rfl).grown hg3 (by intro e; have := Option.some.inj e; omega)); have HB3 := hide (HB2.out.trans (cg_to_below (cg_trans (cg_trans (cg_alloc w2 _ (some w2.heap.size)) (cg_alloc _ _ _)) hg3) HB2.out.size HB2.out.size)); clear hC3 hg3)
    | (refine wpL_store rfl 26 _ _ rfl _ rfl (bs E) rfl 26 (bs (noughts 32)) HR3.out (by rw [bs_length, bs_length, HE.out]; rfl) (by rw [bs_length, HE.out]; kernel_rfl) (bs_one' _) ?_; intro w4 hC4 hg4; obtain ⟨d0, d1, d19, e0, e1, e31⟩ := HV.out; have q0 := (HC3.out.grown hg4 (by intro e; have := Option.some.inj e; omega)).byte 0 (by rw [HD.out]; decide); have q1 := (HC3.out.grown hg4 (by intro e; have := Option.some.inj e; omega)).byte 1 (by rw [HD.out]; decide); have q19 := (HC3.out.grown hg4 (by intro e; have := Option.some.inj e; omega)).byte 19 (by rw [HD.out]; decide); have r0 := hC4.byte 0 (by rw [HE.out]; decide); have r1 := hC4.byte 1 (by rw [HE.out]; decide); have r31 := hC4.byte 31 (by rw [HE.out]; decide); rw [d0] at q0; rw [d1] at q1; rw [d19] at q19; rw [e0] at r0; rw [e1] at r1; rw [e31] at r31; have HB4 := hide (HB3.out.grown hg4 HB3.out.size (fun k hk => by cases hk; exact Nat.le_trans HB2.out.size (Nat.le_succ _))); clear hC4 hg4 d0 d1 d19 e0 e1 e31)
    | (go_at_call 11; refine (zero_b64 w4).mono ?_; rintro e w5 ⟨rfl, hb5⟩; have HB5 := hide (HB4.out.trans (hb5.mono HB4.out.size)); clear hb5))
  go_ret
  exact ⟨rfl, HB5.out⟩
theorem awake_any (w : World) (hT : Tb w) : Calls Tryd.prog 4 #[] w fun e w' => e = .returned (.bool true) ∧ Below w.heap.size w w' := by
  refine awake_core _ _ (sha1_length [97, 98, 99]) (sha2_length [97, 98, 99]) ?_ ?_ ?_ ?_ ?_ ?_ (fun w o h => abc1 _ rfl w o h) (fun w o h => abc2 _ rfl w o h) w hT
  all_goals first | (rw [sha1_abc]; rfl) | (rw [sha2_abc]; rfl)
#print axioms awake_any
end Go.Proofs.YtiigpangofogcaaDoor
