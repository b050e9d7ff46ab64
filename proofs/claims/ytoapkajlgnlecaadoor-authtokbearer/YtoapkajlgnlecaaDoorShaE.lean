/-
  THE WALK of digest's (long).behind.
-/
import Derived.Test.YtoapkajlgnlecaaDoorShaD
set_option linter.unusedVariables false
namespace Go.Proofs.YtoapkajlgnlecaaDoor
open Go.RowKit

theorem turned_i (x : UInt32) (k : Int) (w : World) (h1 : 1 ≤ k) (h2 : k ≤ 31) :
    Calls Tryd.prog 65 #[.int .u32 (x.toNat : Int), .int .i64 k] w fun e w' => e = .returned (.int .u32 ((rotr x k.toNat).toNat : Int)) ∧ w' = w :=
  turned_any x k k.toNat w (by omega) (by omega) (by omega)

set_option maxRecDepth 1000000 in
set_option maxHeartbeats 4000000 in
theorem beh2_core (s : S8) (m : List UInt8) (w : World) (hm : m.length = 64) (hT : Tb w) (L : List UInt32) (hL : L.length = 64) (R : Nat → S8) (R0 : R 0 = s) (RS : ∀ n, R (n + 1) = step2 n (L.getD n 0) (R n))
    (hsch : ∀ w, Calls Tryd.prog 64 #[.agg (bs m).toArray] w fun e w' => e = .returned (.agg (us L).toArray) ∧ Below w.heap.size w w') :
    Calls Tryd.prog 48 #[.agg #[.int .u32 (s.a.toNat : Int), .int .u32 (s.b.toNat : Int), .int .u32 (s.c.toNat : Int), .int .u32 (s.d.toNat : Int), .int .u32 (s.e.toNat : Int), .int .u32 (s.f.toNat : Int), .int .u32 (s.g.toNat : Int), .int .u32 (s.h.toNat : Int)], .agg (bs m).toArray] w
      fun e w' => e = .returned (.agg (us [s.a + (R 64).a, s.b + (R 64).b, s.c + (R 64).c, s.d + (R 64).d, s.e + (R 64).e, s.f + (R 64).f, s.g + (R 64).g, s.h + (R 64).h]).toArray) ∧ Below w.heap.size w w' := by
  have HT := hide hT
  have HM : Hid (m.length = 64) := hm
  have HL := hide hL
  have HR0 := hide R0
  have HRS := hide RS
  have HS := hide hsch
  clear hT hm hL R0 RS hsch
  go_enter Tryd.func48, Tryd.ntmps48
  go_wp2
  go_quiet (fail)
  have hC : Cel ((((w.alloc (.cells #[.int .u32 (s.a.toNat : Int), .int .u32 (s.b.toNat : Int), .int .u32 (s.c.toNat : Int), .int .u32 (s.d.toNat : Int), .int .u32 (s.e.toNat : Int), .int .u32 (s.f.toNat : Int), .int .u32 (s.g.toNat : Int), .int .u32 (s.h.toNat : Int)] 95)).alloc (.cells (bs m).toArray 65)).alloc (.cells #[.int .u32 0, .int .u32 0, .int .u32 0, .int .u32 0, .int .u32 0, .int .u32 0, .int .u32 0, .int .u32 0] 95)).drewN nq) (w.heap.size + 1) 65 (bs m) := ((Cel.newAt _ _ (bs m) _ (by simp)).alloc _).drewN nq
  have hC0 : Cel ((((w.alloc (.cells #[.int .u32 (s.a.toNat : Int), .int .u32 (s.b.toNat : Int), .int .u32 (s.c.toNat : Int), .int .u32 (s.d.toNat : Int), .int .u32 (s.e.toNat : Int), .int .u32 (s.f.toNat : Int), .int .u32 (s.g.toNat : Int), .int .u32 (s.h.toNat : Int)] 95)).alloc (.cells (bs m).toArray 65)).alloc (.cells #[.int .u32 0, .int .u32 0, .int .u32 0, .int .u32 0, .int .u32 0, .int .u32 0, .int .u32 0, .int .u32 0] 95)).drewN nq) w.heap.size 95 (us s.list) := (((Cel.newAt w _ (us s.list) _ rfl).alloc _).alloc _).drewN nq
  have hCR : Cel ((((w.alloc (.cells #[.int .u32 (s.a.toNat : Int), .int .u32 (s.b.toNat : Int), .int .u32 (s.c.toNat : Int), .int .u32 (s.d.toNat : Int), .int .u32 (s.e.toNat : Int), .int .u32 (s.f.toNat : Int), .int .u32 (s.g.toNat : Int), .int .u32 (s.h.toNat : Int)] 95)).alloc (.cells (bs m).toArray 65)).alloc (.cells #[.int .u32 0, .int .u32 0, .int .u32 0, .int .u32 0, .int .u32 0, .int .u32 0, .int .u32 0, .int .u32 0] 95)).drewN nq) (w.heap.size + 1 + 1) 95 (us [0, 0, 0, 0, 0, 0, 0, 0]) := (Cel.newAt _ _ (us [0, 0, 0, 0, 0, 0, 0, 0]) _ (by simp)).drewN nq
  have hB0 : Below w.heap.size w ((((w.alloc (.cells #[.int .u32 (s.a.toNat : Int), .int .u32 (s.b.toNat : Int), .int .u32 (s.c.toNat : Int), .int .u32 (s.d.toNat : Int), .int .u32 (s.e.toNat : Int), .int .u32 (s.f.toNat : Int), .int .u32 (s.g.toNat : Int), .int .u32 (s.h.toNat : Int)] 95)).alloc (.cells (bs m).toArray 65)).alloc (.cells #[.int .u32 0, .int .u32 0, .int .u32 0, .int .u32 0, .int .u32 0, .int .u32 0, .int .u32 0, .int .u32 0] 95)).drewN nq) := bdrewN ((((Below.refl _ _).alloc (Nat.le_refl _) _).alloc (by simp) _).alloc (by simp; omega) _) nq
  have hsz : w.heap.size + 1 + 1 < ((((w.alloc (.cells #[.int .u32 (s.a.toNat : Int), .int .u32 (s.b.toNat : Int), .int .u32 (s.c.toNat : Int), .int .u32 (s.d.toNat : Int), .int .u32 (s.e.toNat : Int), .int .u32 (s.f.toNat : Int), .int .u32 (s.g.toNat : Int), .int .u32 (s.h.toNat : Int)] 95)).alloc (.cells (bs m).toArray 65)).alloc (.cells #[.int .u32 0, .int .u32 0, .int .u32 0, .int .u32 0, .int .u32 0, .int .u32 0, .int .u32 0, .int .u32 0] 95)).drewN nq).heap.size := hCR.lt
  generalize ((((w.alloc (.cells #[.int .u32 (s.a.toNat : Int), .int .u32 (s.b.toNat : Int), .int .u32 (s.c.toNat : Int), .int .u32 (s.d.toNat : Int), .int .u32 (s.e.toNat : Int), .int .u32 (s.f.toNat : Int), .int .u32 (s.g.toNat : Int), .int .u32 (s.h.toNat : Int)] 95)).alloc (.cells (bs m).toArray 65)).alloc (.cells #[.int .u32 0, .int .u32 0, .int .u32 0, .int .u32 0, .int .u32 0, .int .u32 0, .int .u32 0, .int .u32 0] 95)).drewN nq) = w1 at *
  have HC := hide hC
  have HC0 := hide hC0
  have HCR := hide hCR
  have HB0 := hide hB0
  have HSZ := hide hsz
  clear hC hC0 hCR hB0 hsz
  go_wp2_with (first | refine wpL_load rfl 65 _ rfl _ rfl 65 _ _ _ HC.out Tryd.underlying65 (by rw [bs_length, HM.out]; kernel_rfl) ?_ | (go_at_call 64; refine (HS.out _).mono ?_; rintro e w2 ⟨rfl, hb2⟩))
  have HC0' := hide (HC0.out.below hb2 (Nat.lt_of_le_of_lt (by omega) HSZ.out))
  have HCR' := hide (HCR.out.below hb2 HSZ.out)
  have HB2 := hide (HB0.out.trans (hb2.mono (Nat.le_of_lt (Nat.lt_of_le_of_lt (by omega) HSZ.out))))
  have HT2 := hide (HT.out.below HB2.out HT.out.big)
  clear hb2
  go_loopw [5, 6, 7, 8, 9, 10, 11, 12, 35] (fun va vb vc vd ve vf vg vh v wr => ∃ k : Nat, k ≤ 64 ∧ v = .int .i64 (k : Int) ∧ va = .int .u32 ((R k).a.toNat : Int) ∧ vb = .int .u32 ((R k).b.toNat : Int) ∧ vc = .int .u32 ((R k).c.toNat : Int) ∧ vd = .int .u32 ((R k).d.toNat : Int) ∧ ve = .int .u32 ((R k).e.toNat : Int) ∧ vf = .int .u32 ((R k).f.toNat : Int) ∧ vg = .int .u32 ((R k).g.toNat : Int) ∧ vh = .int .u32 ((R k).h.toNat : Int) ∧ Hid (Cel wr w.heap.size 95 (us s.list)) ∧ Hid (Cel wr (w.heap.size + 1 + 1) 95 (us [0, 0, 0, 0, 0, 0, 0, 0])) ∧ Hid (Below w.heap.size w wr) ∧ Hid (Tb wr)) (fun _ _ _ _ _ _ _ _ v _ => 64 - (intOf v).toNat)
  case atStart =>
    refine ⟨0, ?_⟩
    rw [HR0.out]
    exact ⟨Nat.zero_le _, rfl, rfl, rfl, rfl, rfl, rfl, rfl, rfl, rfl, HC0', HCR', HB2, HT2⟩
  case round =>
    clear HC0' HCR' HB2 HT2 HC HC0 HCR HB0 HSZ
    obtain ⟨k, hk, rfl, rfl, rfl, rfl, rfl, rfl, rfl, rfl, rfl, hC0, hCR, hb, hT⟩ := hrel
    by_cases hlt : k < 64
    · have hidx := fun w => run_idx w 117 64 L k Tryd.underlying117 HL.out hlt
      have HN : Hid (R (k + 1) = step2 k (L.getD k 0) (R k)) := HRS.out k
      generalize L.getD k 0 = x at *
      generalize R k = r at *
      have hq0 : (0 : Int) ≤ (k : Int) := by omega
      have hq4 : (k : Int) < 64 := by omega
      have cT := hT.out.r2 k (by omega)
      obtain ⟨SE, hSE⟩ : ∃ y, rotr r.e 6 ^^^ rotr r.e 11 ^^^ rotr r.e 25 = y := ⟨_, rfl⟩
      have eSE : bits .xor .u32 (bits .xor .u32 ((rotr r.e 6).toNat : Int) ((rotr r.e 11).toNat : Int)) ((rotr r.e 25).toNat : Int) = (SE.toNat : Int) := by rw [u_xor, u_xor, hSE]
      obtain ⟨SA, hSA⟩ : ∃ y, rotr r.a 2 ^^^ rotr r.a 13 ^^^ rotr r.a 22 = y := ⟨_, rfl⟩
      have eSA : bits .xor .u32 (bits .xor .u32 ((rotr r.a 2).toNat : Int) ((rotr r.a 13).toNat : Int)) ((rotr r.a 22).toNat : Int) = (SA.toNat : Int) := by rw [u_xor, u_xor, hSA]
      obtain ⟨O, hO⟩ : ∃ y, r.h + SE + chs r.e r.f r.g + k2 k + x = y := ⟨_, rfl⟩
      have eO := u_add5 r.h SE (chs r.e r.f r.g) (k2 k) x
      rw [hO] at eO
      obtain ⟨F, hF⟩ : ∃ y, O + SA + maj r.a r.b r.c = y := ⟨_, rfl⟩
      have eF := u_add3 O SA (maj r.a r.b r.c)
      rw [hF] at eF
      obtain ⟨D, hD⟩ : ∃ y, r.d + O = y := ⟨_, rfl⟩
      have eD := u_add2 r.d O
      rw [hD] at eD
      have HV : Hid (step2 k x r = ⟨F, r.a, r.b, r.c, D, r.e, r.f, r.g⟩) := by
        show _ = _
        have h1 : one2 k x r = O := by rw [← hO, ← hSE]; rfl
        have h2 : two2 r = SA := hSA
        unfold step2
        rw [h1, h2, hF, hD]
      clear hSE hSA hO hF hD
      generalize k2 k = kt at *
      go_wp2
      go_quiet (first | (go_at_call 65; exact Calls.quiet_of_same (turned_i _ _ _ (by omega) (by omega))) | (go_at_call 66; exact Calls.quiet_of_same (choose_any _ _ _ _)))
      go_wp2_with (first | (go_at_call 65; refine (turned_i _ _ _ (by omega) (by omega)).mono ?_; rintro e w' ⟨rfl, rfl⟩) | (go_at_call 67; refine (maj_any _ _ _ _).mono ?_; rintro e w' ⟨rfl, rfl⟩))
      go_roundw
      case rel =>
        refine ⟨k + 1, ?_⟩
        rw [HN.out, HV.out]
        exact ⟨by omega, by go_num, int_eq (by show _ = (F.toNat : Int); omega), rfl, rfl, rfl, int_eq eD, rfl, rfl, rfl, hC0.out.drewN nq, hCR.out.drewN nq, bdrewN hb.out nq, hT.out.below (bdrewN (Below.refl 3 _) nq) (Nat.le_refl _)⟩
      case measure => simp [intOf]; omega
    · obtain rfl : k = 64 := by omega
      have c0 := hC0.out.word 0 (by show 0 < 8; omega)
      have c1 := hC0.out.word 1 (by show 1 < 8; omega)
      have c2 := hC0.out.word 2 (by show 2 < 8; omega)
      have c3 := hC0.out.word 3 (by show 3 < 8; omega)
      have c4 := hC0.out.word 4 (by show 4 < 8; omega)
      have c5 := hC0.out.word 5 (by show 5 < 8; omega)
      have c6 := hC0.out.word 6 (by show 6 < 8; omega)
      have c7 := hC0.out.word 7 (by show 7 < 8; omega)
      simp only [S8.list, List.getD_cons_zero, List.getD_cons_succ] at c0 c1 c2 c3 c4 c5 c6 c7
      obtain ⟨r, hr⟩ : ∃ r, R 64 = r := ⟨_, rfl⟩
      rw [hr]
      have HR := hide hr
      clear hr
      obtain ⟨A, hA⟩ : ∃ x, s.a + r.a = x := ⟨_, rfl⟩
      have eA := u_add2 s.a r.a
      rw [hA] at eA
      have HA := hide hA
      clear hA
      obtain ⟨B, hB⟩ : ∃ x, s.b + r.b = x := ⟨_, rfl⟩
      have eB := u_add2 s.b r.b
      rw [hB] at eB
      have HB := hide hB
      clear hB
      obtain ⟨C, hC⟩ : ∃ x, s.c + r.c = x := ⟨_, rfl⟩
      have eC := u_add2 s.c r.c
      rw [hC] at eC
      have HC := hide hC
      clear hC
      obtain ⟨D, hD⟩ : ∃ x, s.d + r.d = x := ⟨_, rfl⟩
      have eD := u_add2 s.d r.d
      rw [hD] at eD
      have HD := hide hD
      clear hD
      obtain ⟨E, hE⟩ : ∃ x, s.e + r.e = x := ⟨_, rfl⟩
      have eE := u_add2 s.e r.e
      rw [hE] at eE
      have HE := hide hE
      clear hE
      obtain ⟨F, hF⟩ : ∃ x, s.f + r.f = x := ⟨_, rfl⟩
      have eF := u_add2 s.f r.f
      rw [hF] at eF
      have HF := hide hF
      clear hF
      obtain ⟨G, hG⟩ : ∃ x, s.g + r.g = x := ⟨_, rfl⟩
      have eG := u_add2 s.g r.g
      rw [hG] at eG
      have HG := hide hG
      clear hG
      obtain ⟨H, hH⟩ : ∃ x, s.h + r.h = x := ⟨_, rfl⟩
      have eH := u_add2 s.h r.h
      rw [hH] at eH
      have HH := hide hH
      clear hH
      go_wp2_with (refine wpL_store rfl 95 _ _ rfl _ rfl (us [A, B, C, D, E, F, G, H]) rfl 95 _ hCR.out rfl (by kernel_rfl) (us_one _) ?_; intro w9 c9 g9)
      refine bodyPost_ret (results_cel rfl _ _ _ _ _ _ _ rfl c9 Tryd.underlying95 (by kernel_rfl)) rfl ⟨?_, hb.out.grown g9 hb.out.size (fun k hk => by cases hk; omega)⟩
      rw [HR.out, HA.out, HB.out, HC.out, HD.out, HE.out, HF.out, HG.out, HH.out]
theorem beh2_any (s : S8) (m : List UInt8) (w : World) (hm : m.length = 64) (hT : Tb w) :
    Calls Tryd.prog 48 #[.agg (us s.list).toArray, .agg (bs m).toArray] w
      fun e w' => e = .returned (.agg (us (beh2 s m).list).toArray) ∧ Below w.heap.size w w' := by
  rw [beh2_eq]
  exact beh2_core s m w hm hT (sch2 m 64) (sch2_length m 64) (rnd2 (sch2 m 64) s) rfl (rnd2_succ _ _) (fun w => sched2_any m w hm)
#print axioms beh2_any
end Go.Proofs.YtoapkajlgnlecaaDoor
