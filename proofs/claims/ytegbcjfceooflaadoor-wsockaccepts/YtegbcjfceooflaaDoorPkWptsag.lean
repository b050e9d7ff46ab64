/-
  THE WALK of digest's longSchedule.; THE WALK of digest's (short).behind; the tables.; THE WALK of digest's (long).behind.
-/
import Derived.Test.YtegbcjfceooflaaDoorPkWptsaf
import Derived.StillTailTactics
section
set_option linter.unusedVariables false
namespace Go.Proofs.YtegbcjfceooflaaDoor
open Go.RowKit

/-- A region that reads, calls what changes nothing, and ends in what is forced. -/
theorem rs_tail {P : Program} {id : Nat} {Q : Exit → Act → World → Prop} {a : Act} {w : World} {l : List Oper} (n : Nat) (hm : P.follows .mixedOrders = true) (hB : Region.lexTailB .any l.toArray n = true)
    (h : wpStill P l.toArray w.drew (fun a' => wpList P l.toArray Q (l.drop n) a' w.drew) (l.take n) a) : (Code.region id l.toArray true).wp P Q a w := wp_region_still_tail n hm hB h
theorem follows : Tryd.prog.follows .mixedOrders = true := by kernel_rfl

def g7 (x : UInt32) : UInt32 := rotr x 7 ^^^ rotr x 18 ^^^ (x >>> 3)
def g17 (y : UInt32) : UInt32 := rotr y 17 ^^^ rotr y 19 ^^^ (y >>> 10)

theorem u_shr3 (x : UInt32) : (x.toNat : Int) / (8 : Int) = ((x >>> 3).toNat : Int) := by
  have := u_shr x 3 (by omega)
  exact this
theorem u_shr10 (x : UInt32) : (x.toNat : Int) / (1024 : Int) = ((x >>> 10).toNat : Int) := by
  have := u_shr x 10 (by omega)
  exact this
theorem u_add2 (a b : UInt32) : ((a.toNat : Int) + (b.toNat : Int)) % 4294967296 = ((a + b).toNat : Int) := by
  simp only [UInt32.toNat_add]; omega
theorem u_add3 (a b c : UInt32) : ((a.toNat : Int) + (b.toNat : Int) + (c.toNat : Int)) % 4294967296 = ((a + b + c).toNat : Int) := by
  simp only [UInt32.toNat_add]; omega
theorem u_add4 (a b c d : UInt32) : ((a.toNat : Int) + (b.toNat : Int) + (c.toNat : Int) + (d.toNat : Int)) % 4294967296 = ((a + b + c + d).toNat : Int) := by
  simp only [UInt32.toNat_add]; omega
theorem u_add5 (a b c d e : UInt32) : ((a.toNat : Int) + (b.toNat : Int) + (c.toNat : Int) + (d.toNat : Int) + (e.toNat : Int)) % 4294967296 = ((a + b + c + d + e).toNat : Int) := by
  simp only [UInt32.toNat_add]; omega

end Go.Proofs.YtegbcjfceooflaaDoor
end
section
set_option linter.unusedVariables false
namespace Go.Proofs.YtegbcjfceooflaaDoor
open Go.RowKit

/-- The two tables of Sha1, as the program's text lays them. -/
structure Tb (w : World) : Prop where
  i1 : ∀ i, i < 5 → w.cell? ⟨0, i, none⟩ = some (.int .u32 ((ini1.list.getD i 0).toNat : Int))
  r1 : ∀ i, i < 4 → w.cell? ⟨1, i, none⟩ = some (.int .u32 ((k1 i).toNat : Int))
theorem Tb.big {w : World} (h : Tb w) : 2 ≤ w.heap.size := by
  have h1 := World.block_lt_of_cell? w _ (h.r1 0 (by omega))
  have h2 := World.block_lt_of_cell? w _ (h.i1 0 (by omega))
  simp only at h1 h2
  omega
theorem Tb.below {w w' : World} {B : Nat} (h : Tb w) (hb : Below B w w') (hB : 2 ≤ B) : Tb w' :=
  ⟨fun i hi => by rw [hb.cell (by show 0 < B; omega)]; exact h.i1 i hi, fun i hi => by rw [hb.cell (by show 1 < B; omega)]; exact h.r1 i hi⟩

theorem run_idx (w : World) (t : TypeId) (n : Nat) (l : List UInt32) (k : Nat) (hu : Tryd.prog.underlying t = some (.array n 69)) (hl : l.length = n) (hk : k < n) :
    (Instr.index t (.agg (us l).toArray) (.int .i64 (k : Int))).run Tryd.prog w = .ok (.int .u32 ((l.getD k 0).toNat : Int)) w := by
  have hn : 0 ≤ (k : Int) ∧ (k : Int) < (n : Int) := by omega
  have hg := us_get l k (by omega)
  simp [Instr.index, run_underlying hu, asIntOf, go_sem, hk, hg]

set_option maxHeartbeats 2000000 in
theorem beh1_core (s : S5) (m : List UInt8) (w : World) (hm : m.length = 64) (hT : Tb w) (L : List UInt32) (hL : L.length = 80) (R : Nat → S5) (R0 : R 0 = s) (RS : ∀ n, R (n + 1) = step1 n (L.getD n 0) (R n))
    (hsch : ∀ w, Calls Tryd.prog 59 #[.agg (bs m).toArray] w fun e w' => e = .returned (.agg (us L).toArray) ∧ Below w.heap.size w w') :
    Calls Tryd.prog 37 #[.agg #[.int .u32 (s.a.toNat : Int), .int .u32 (s.b.toNat : Int), .int .u32 (s.c.toNat : Int), .int .u32 (s.d.toNat : Int), .int .u32 (s.e.toNat : Int)], .agg (bs m).toArray] w
      fun e w' => e = .returned (.agg (us [s.a + (R 80).a, s.b + (R 80).b, s.c + (R 80).c, s.d + (R 80).d, s.e + (R 80).e]).toArray) ∧ Below w.heap.size w w' := by
  have HT := hide hT
  have HM : Hid (m.length = 64) := hm
  have HL := hide hL
  have HR0 := hide R0
  have HRS := hide RS
  have HS := hide hsch
  clear hT hm hL R0 RS hsch
  go_enter Tryd.func37, Tryd.ntmps37
  go_wp2
  go_quiet (fail)
  have hC : Cel ((((w.alloc (.cells #[.int .u32 (s.a.toNat : Int), .int .u32 (s.b.toNat : Int), .int .u32 (s.c.toNat : Int), .int .u32 (s.d.toNat : Int), .int .u32 (s.e.toNat : Int)] 71)).alloc (.cells (bs m).toArray 74)).alloc (.cells #[.int .u32 0, .int .u32 0, .int .u32 0, .int .u32 0, .int .u32 0] 71)).drewN nq) (w.heap.size + 1) 74 (bs m) := ((Cel.newAt _ _ (bs m) _ (by simp)).alloc _).drewN nq
  have hC0 : Cel ((((w.alloc (.cells #[.int .u32 (s.a.toNat : Int), .int .u32 (s.b.toNat : Int), .int .u32 (s.c.toNat : Int), .int .u32 (s.d.toNat : Int), .int .u32 (s.e.toNat : Int)] 71)).alloc (.cells (bs m).toArray 74)).alloc (.cells #[.int .u32 0, .int .u32 0, .int .u32 0, .int .u32 0, .int .u32 0] 71)).drewN nq) w.heap.size 71 (us s.list) := (((Cel.newAt w _ (us s.list) _ rfl).alloc _).alloc _).drewN nq
  have hCR : Cel ((((w.alloc (.cells #[.int .u32 (s.a.toNat : Int), .int .u32 (s.b.toNat : Int), .int .u32 (s.c.toNat : Int), .int .u32 (s.d.toNat : Int), .int .u32 (s.e.toNat : Int)] 71)).alloc (.cells (bs m).toArray 74)).alloc (.cells #[.int .u32 0, .int .u32 0, .int .u32 0, .int .u32 0, .int .u32 0] 71)).drewN nq) (w.heap.size + 1 + 1) 71 (us [0, 0, 0, 0, 0]) := (Cel.newAt _ _ (us [0, 0, 0, 0, 0]) _ (by simp)).drewN nq
  have hB0 : Below w.heap.size w ((((w.alloc (.cells #[.int .u32 (s.a.toNat : Int), .int .u32 (s.b.toNat : Int), .int .u32 (s.c.toNat : Int), .int .u32 (s.d.toNat : Int), .int .u32 (s.e.toNat : Int)] 71)).alloc (.cells (bs m).toArray 74)).alloc (.cells #[.int .u32 0, .int .u32 0, .int .u32 0, .int .u32 0, .int .u32 0] 71)).drewN nq) := bdrewN ((((Below.refl _ _).alloc (Nat.le_refl _) _).alloc (by simp) _).alloc (by simp; omega) _) nq
  have hsz : w.heap.size + 1 + 1 < ((((w.alloc (.cells #[.int .u32 (s.a.toNat : Int), .int .u32 (s.b.toNat : Int), .int .u32 (s.c.toNat : Int), .int .u32 (s.d.toNat : Int), .int .u32 (s.e.toNat : Int)] 71)).alloc (.cells (bs m).toArray 74)).alloc (.cells #[.int .u32 0, .int .u32 0, .int .u32 0, .int .u32 0, .int .u32 0] 71)).drewN nq).heap.size := hCR.lt
  generalize ((((w.alloc (.cells #[.int .u32 (s.a.toNat : Int), .int .u32 (s.b.toNat : Int), .int .u32 (s.c.toNat : Int), .int .u32 (s.d.toNat : Int), .int .u32 (s.e.toNat : Int)] 71)).alloc (.cells (bs m).toArray 74)).alloc (.cells #[.int .u32 0, .int .u32 0, .int .u32 0, .int .u32 0, .int .u32 0] 71)).drewN nq) = w1 at *
  have HC := hide hC
  have HC0 := hide hC0
  have HCR := hide hCR
  have HB0 := hide hB0
  have HSZ := hide hsz
  clear hC hC0 hCR hB0 hsz
  go_wp2_with (first | refine wpL_load rfl 74 _ rfl _ rfl 74 _ _ _ HC.out Tryd.underlying74 (by rw [bs_length, HM.out]; kernel_rfl) ?_ | (go_at_call 59; refine (HS.out _).mono ?_; rintro e w2 ⟨rfl, hb2⟩))
  have HC0' := hide (HC0.out.below hb2 (Nat.lt_of_le_of_lt (by omega) HSZ.out))
  have HCR' := hide (HCR.out.below hb2 HSZ.out)
  have HB2 := hide (HB0.out.trans (hb2.mono (Nat.le_of_lt (Nat.lt_of_le_of_lt (by omega) HSZ.out))))
  have HT2 := hide (HT.out.below HB2.out HT.out.big)
  clear hb2
  go_loopw [5, 6, 7, 8, 9, 25] (fun va vb vc vd ve v wr => ∃ k : Nat, k ≤ 80 ∧ v = .int .i64 (k : Int) ∧ va = .int .u32 ((R k).a.toNat : Int) ∧ vb = .int .u32 ((R k).b.toNat : Int) ∧ vc = .int .u32 ((R k).c.toNat : Int) ∧ vd = .int .u32 ((R k).d.toNat : Int) ∧ ve = .int .u32 ((R k).e.toNat : Int) ∧ Hid (Cel wr w.heap.size 71 (us s.list)) ∧ Hid (Cel wr (w.heap.size + 1 + 1) 71 (us [0, 0, 0, 0, 0])) ∧ Hid (Below w.heap.size w wr) ∧ Hid (Tb wr)) (fun _ _ _ _ _ v _ => 80 - (intOf v).toNat)
  case atStart =>
    refine ⟨0, ?_⟩
    rw [HR0.out]
    exact ⟨Nat.zero_le _, rfl, rfl, rfl, rfl, rfl, rfl, HC0', HCR', HB2, HT2⟩
  case round =>
    clear HC0' HCR' HB2 HT2 HC HC0 HCR HB0 HSZ
    obtain ⟨k, hk, rfl, rfl, rfl, rfl, rfl, rfl, hC0, hCR, hb, hT⟩ := hrel
    by_cases hlt : k < 80
    · have hidx := fun w => run_idx w 110 80 L k Tryd.underlying110 (HL.out) hlt
      have HN : Hid (R (k + 1) = step1 k (L.getD k 0) (R k)) := HRS.out k
      generalize L.getD k 0 = x at *
      generalize R k = r at *
      obtain ⟨t, ht⟩ : ∃ t, t = k / 20 := ⟨_, rfl⟩
      have hq : (k : Int) / 20 = (t : Int) := by omega
      have hq0 : (0 : Int) ≤ (t : Int) := by omega
      have hq4 : (t : Int) < 4 := by omega
      have cT := hT.out.r1 t (by omega)
      have HT1 := hide ht
      clear ht
      have HV : Hid (step1 k x r = ⟨rotl r.a 5 + mix1 t r.b r.c r.d + r.e + k1 t + x, r.a, rotl r.b 30, r.c, r.d⟩) := by show _ = _; rw [HT1.out]; rfl
      generalize k1 t = kt at *
      go_wp2
      go_quiet (first | (go_at_call 60; exact Calls.quiet_of_same (rotl_any r.a 5 5 _ rfl (by omega) (by omega))) | (go_at_call 61; exact Calls.quiet_of_same (mix_any t _ r.b r.c r.d _ rfl)))
      go_wp2_with (go_at_call 60; refine (rotl_any r.b 30 30 _ rfl (by omega) (by omega)).mono ?_; rintro e w' ⟨rfl, rfl⟩)
      go_roundw
      case rel =>
        refine ⟨k + 1, ?_⟩
        rw [HN.out, HV.out]
        exact ⟨by omega, by go_num, int_eq (u_add5 _ _ _ _ _), rfl, rfl, rfl, rfl, hC0.out.drewN nq, hCR.out.drewN nq, bdrewN hb.out nq, hT.out.below (bdrewN (Below.refl 2 _) nq) (Nat.le_refl _)⟩
      case measure => simp [intOf]; omega
    · obtain rfl : k = 80 := by omega
      have c0 := hC0.out.word 0 (by show 0 < 5; omega)
      have c1 := hC0.out.word 1 (by show 1 < 5; omega)
      have c2 := hC0.out.word 2 (by show 2 < 5; omega)
      have c3 := hC0.out.word 3 (by show 3 < 5; omega)
      have c4 := hC0.out.word 4 (by show 4 < 5; omega)
      simp only [S5.list, List.getD_cons_zero, List.getD_cons_succ] at c0 c1 c2 c3 c4
      obtain ⟨r, hr⟩ : ∃ r, R 80 = r := ⟨_, rfl⟩
      rw [hr]
      have HR := hide hr
      clear hr
      obtain ⟨A, hA⟩ : ∃ x, s.a + r.a = x := ⟨_, rfl⟩
      have eA := u_add2 s.a r.a
      rw [hA] at eA
      have HA := hide hA
      clear hA
      obtain ⟨B, hB⟩ : ∃ x, s.b + r.b = x := ⟨_, rfl⟩
      have eB := u_add2 s.b r.b
      rw [hB] at eB
      have HB := hide hB
      clear hB
      obtain ⟨C, hC⟩ : ∃ x, s.c + r.c = x := ⟨_, rfl⟩
      have eC := u_add2 s.c r.c
      rw [hC] at eC
      have HC := hide hC
      clear hC
      obtain ⟨D, hD⟩ : ∃ x, s.d + r.d = x := ⟨_, rfl⟩
      have eD := u_add2 s.d r.d
      rw [hD] at eD
      have HD := hide hD
      clear hD
      obtain ⟨E, hE⟩ : ∃ x, s.e + r.e = x := ⟨_, rfl⟩
      have eE := u_add2 s.e r.e
      rw [hE] at eE
      have HE := hide hE
      clear hE
      go_wp2_with (refine wpL_store rfl 71 _ _ rfl _ rfl (us [A, B, C, D, E]) rfl 71 _ hCR.out rfl (by kernel_rfl) (us_one _) ?_; intro w9 c9 g9)
      refine bodyPost_ret (results_cel rfl _ _ _ _ _ _ _ rfl c9 Tryd.underlying71 (by kernel_rfl)) rfl ⟨?_, hb.out.grown g9 hb.out.size (fun k hk => by cases hk; omega)⟩
      rw [HR.out, HA.out, HB.out, HC.out, HD.out, HE.out]
theorem beh1_any (s : S5) (m : List UInt8) (w : World) (hm : m.length = 64) (hT : Tb w) :
    Calls Tryd.prog 37 #[.agg (us s.list).toArray, .agg (bs m).toArray] w
      fun e w' => e = .returned (.agg (us (beh1 s m).list).toArray) ∧ Below w.heap.size w w' := by
  rw [beh1_eq]
  exact beh1_core s m w hm hT (sch1 m 80) (sch1_length m 80) (rnd1 (sch1 m 80) s) rfl (rnd1_succ _ _) (fun w => sched1_any m w hm)
#print axioms beh1_any
end Go.Proofs.YtegbcjfceooflaaDoor
end
section
set_option linter.unusedVariables false
namespace Go.Proofs.YtegbcjfceooflaaDoor
open Go.RowKit

end Go.Proofs.YtegbcjfceooflaaDoor
end
