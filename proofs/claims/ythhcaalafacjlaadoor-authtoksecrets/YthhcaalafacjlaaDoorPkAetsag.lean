/-
  THE WALK of digest's longSchedule.; THE WALK of digest's (short).behind; the tables.; THE WALK of digest's (long).behind.
-/
import Derived.Test.YthhcaalafacjlaaDoorPkAetsaf
import Derived.StillTailTactics
section
set_option linter.unusedVariables false
namespace Go.Proofs.YthhcaalafacjlaaDoor
open Go.RowKit

/-- A region that reads, calls what changes nothing, and ends in what is forced. -/
theorem rs_tail {P : Program} {id : Nat} {Q : Exit → Act → World → Prop} {a : Act} {w : World} {l : List Oper} (n : Nat) (hm : P.follows .mixedOrders = true) (hB : Region.lexTailB .any l.toArray n = true)
    (h : wpStill P l.toArray w.drew (fun a' => wpList P l.toArray Q (l.drop n) a' w.drew) (l.take n) a) : (Code.region id l.toArray true).wp P Q a w := wp_region_still_tail n hm hB h
theorem follows : Tryd.prog.follows .mixedOrders = true := by kernel_rfl

theorem zero64 : (Tryd.prog.info? 113).map (fun i => (i.zero, i.size)) = some (some (.agg (us (List.replicate 64 0)).toArray), 64) := by kernel_rfl
theorem sch2_next (m : List UInt8) (k : Nat) (h : k < 64) : (padw (sch2 m k) 64).set k (nxt2 m (sch2 m k) k) = padw (sch2 m (k + 1)) 64 := padw_set _ _ _ _ (sch2_length m k) h
def g7 (x : UInt32) : UInt32 := rotr x 7 ^^^ rotr x 18 ^^^ (x >>> 3)
def g17 (y : UInt32) : UInt32 := rotr y 17 ^^^ rotr y 19 ^^^ (y >>> 10)

theorem u_shr3 (x : UInt32) : (x.toNat : Int) / (8 : Int) = ((x >>> 3).toNat : Int) := by
  have := u_shr x 3 (by omega)
  exact this
theorem u_shr10 (x : UInt32) : (x.toNat : Int) / (1024 : Int) = ((x >>> 10).toNat : Int) := by
  have := u_shr x 10 (by omega)
  exact this
theorem u_add2 (a b : UInt32) : ((a.toNat : Int) + (b.toNat : Int)) % 4294967296 = ((a + b).toNat : Int) := by
  simp only [UInt32.toNat_add]; omega
theorem u_add3 (a b c : UInt32) : ((a.toNat : Int) + (b.toNat : Int) + (c.toNat : Int)) % 4294967296 = ((a + b + c).toNat : Int) := by
  simp only [UInt32.toNat_add]; omega
theorem u_add4 (a b c d : UInt32) : ((a.toNat : Int) + (b.toNat : Int) + (c.toNat : Int) + (d.toNat : Int)) % 4294967296 = ((a + b + c + d).toNat : Int) := by
  simp only [UInt32.toNat_add]; omega
theorem u_add5 (a b c d e : UInt32) : ((a.toNat : Int) + (b.toNat : Int) + (c.toNat : Int) + (d.toNat : Int) + (e.toNat : Int)) % 4294967296 = ((a + b + c + d + e).toNat : Int) := by
  simp only [UInt32.toNat_add]; omega

set_option maxRecDepth 1000000 in
set_option maxHeartbeats 2000000 in
theorem sched2_any (m : List UInt8) (w : World) (hm : m.length = 64) :
    Calls Tryd.prog 74 #[.agg (bs m).toArray] w fun e w' => e = .returned (.agg (us (sch2 m 64)).toArray) ∧ Below w.heap.size w w' := by
  obtain ⟨z64, i64⟩ := zero_of_info zero64
  have HM : Hid (m.length = 64) := hm
  clear hm
  go_enter Tryd.func74, Tryd.ntmps74
  go_wp2
  go_loopw [8] (fun v wr => ∃ k : Nat, k ≤ 16 ∧ v = .int .i64 (k : Int) ∧ Hid (Cel wr w.heap.size 71 (bs m)) ∧ Hid (Cel wr (w.heap.size + 1) 113 (us (List.replicate 64 0))) ∧ Hid (Cel wr (w.heap.size + 1 + 1) 113 (us (padw (sch2 m k) 64))) ∧ Hid (Below w.heap.size w wr)) (fun v _ => 16 - (intOf v).toNat)
  case atStart =>
    refine ⟨0, Nat.zero_le _, rfl, ?_, ?_, ?_, ?_⟩
    · exact ((Cel.new w _ (bs m)).alloc _).alloc _
    · exact (Cel.newAt _ _ _ _ (by simp)).alloc _
    · exact Cel.newAt _ _ _ _ (by simp)
    · exact (((Below.refl _ _).alloc (Nat.le_refl _) _).alloc (by simp) _).alloc (by simp; omega) _
  case round =>
    obtain ⟨k, hk, rfl, hB, hR, hW, hb⟩ := hrel
    by_cases hlt : k < 16
    · have hl := padw_length (sch2 m k) 64 (by rw [sch2_length]; omega)
      have cS := hW.out.word k (by rw [hl]; omega)
      have fS := hW.out.fr k
      have HN : Hid (nxt2 m (sch2 m k) k = wd m k) := by show _ = _; simp [nxt2, hlt]
      have HX := hide (sch2_next m k (by omega))
      clear hl
      go_wp2_with (go_at_call 85; refine (word_any w.heap.size _ m k _ hB.out HM.out hlt).mono ?_; rintro e w' ⟨rfl, nq, rfl⟩)
      go_roundw
      case rel =>
        refine ⟨k + 1, by omega, by go_num, (hB.out.drewN nq).other _ _ (by omega), (hR.out.drewN nq).other _ _ (by omega), ?_, (bdrewN hb.out nq).setCell (by show _ ≤ _ + 1 + 1; omega) _⟩
        rw [← unhide HX, unhide HN]
        exact (hW.out.drewN nq).setW k _
      case measure => simp [intOf]; omega
    · obtain rfl : k = 16 := by omega
      rw [show ((16 : Nat) : Int) = 16 from rfl]
      go_wp2
      go_loopw [5] (fun v wr2 => ∃ K : Nat, 16 ≤ K ∧ K ≤ 64 ∧ v = .int .i64 (K : Int) ∧ Hid (Cel wr2 (w.heap.size + 1) 113 (us (List.replicate 64 0))) ∧ Hid (Cel wr2 (w.heap.size + 1 + 1) 113 (us (padw (sch2 m K) 64))) ∧ Hid (Below w.heap.size w wr2)) (fun v _ => 64 - (intOf v).toNat)
      case atStart => exact ⟨16, by omega, by omega, rfl, hR, hW, hb⟩
      case round =>
        clear hB hR hW hb
        obtain ⟨K, hK1, hK2, rfl, hR, hW, hb⟩ := hrel
        by_cases hlt : K < 64
        · have HX := hide (sch2_next m K (by omega))
          have hl := padw_length (sch2 m K) 64 (by rw [sch2_length]; omega)
          obtain ⟨P3, hP3⟩ : ∃ P, P + 15 = K := ⟨K - 15, by omega⟩
          obtain ⟨P8, hP8⟩ : ∃ P, P + 2 = K := ⟨K - 2, by omega⟩
          obtain ⟨P14, hP14⟩ : ∃ P, P + 16 = K := ⟨K - 16, by omega⟩
          obtain ⟨P16, hP16⟩ : ∃ P, P + 7 = K := ⟨K - 7, by omega⟩
          have cS := hW.out.word K (by rw [hl]; omega)
          have fS := hW.out.fr K
          have c3 := hW.out.word P3 (by rw [hl]; omega)
          have c8 := hW.out.word P8 (by rw [hl]; omega)
          have c14 := hW.out.word P14 (by rw [hl]; omega)
          have c16 := hW.out.word P16 (by rw [hl]; omega)
          rw [padw_get _ _ _ (by rw [sch2_length]; omega)] at c3 c8 c14 c16
          have HN : Hid (nxt2 m (sch2 m K) K = (sch2 m K).getD P14 0 + g7 ((sch2 m K).getD P3 0) + (sch2 m K).getD P16 0 + g17 ((sch2 m K).getD P8 0)) := by
            show _ = _
            unfold nxt2
            rw [if_neg (by omega)]
            have e3 : K - 15 = P3 := by omega
            have e8 : K - 2 = P8 := by omega
            have e14 : K - 16 = P14 := by omega
            have e16 : K - 7 = P16 := by omega
            rw [e3, e8, e14, e16]
            rfl
          generalize (sch2 m K).getD P3 0 = x3 at *
          generalize (sch2 m K).getD P8 0 = x8 at *
          generalize (sch2 m K).getD P14 0 = x14 at *
          generalize (sch2 m K).getD P16 0 = x16 at *
          clear hl
          have q3 : IntKind.i64.wrap ((K : Int) - 15) = (P3 : Int) := by rw [IntKind.wrap_i64]; omega
          have q8 : IntKind.i64.wrap ((K : Int) - 2) = (P8 : Int) := by rw [IntKind.wrap_i64]; omega
          have q14 : IntKind.i64.wrap ((K : Int) - 16) = (P14 : Int) := by rw [IntKind.wrap_i64]; omega
          have q16 : IntKind.i64.wrap ((K : Int) - 7) = (P16 : Int) := by rw [IntKind.wrap_i64]; omega
          have b3 : (0 : Int) ≤ (P3 : Int) ∧ (P3 : Int) < 64 := by omega
          have b8 : (0 : Int) ≤ (P8 : Int) ∧ (P8 : Int) < 64 := by omega
          have b14 : (0 : Int) ≤ (P14 : Int) ∧ (P14 : Int) < 64 := by omega
          have b16 : (0 : Int) ≤ (P16 : Int) ∧ (P16 : Int) < 64 := by omega
          have bK : (0 : Int) ≤ (K : Int) ∧ (K : Int) < 64 := by omega
          clear hP3 hP8 hP14 hP16
          go_wp2
          go_region_held3 (fun w' => w'.cell? ⟨w.heap.size + 1 + 1, P3, none⟩ = some (.int .u32 (x3.toNat : Int)) ∧ w'.cell? ⟨w.heap.size + 1 + 1, P8, none⟩ = some (.int .u32 (x8.toNat : Int))) (go_keep) (fail)
          go_wp2
          refine rs_tail 29 follows (by kernel_rfl) ?_
          simp only [List.take_succ_cons, List.take_zero, List.drop_succ_cons, List.drop_zero]
          iterate 6 still_step
          still_call (turned_any x3 7 7 _ rfl (by omega) (by omega))
          iterate 1 still_step
          still_call (turned_any x3 18 18 _ rfl (by omega) (by omega))
          iterate 11 still_step
          still_call (turned_any x8 17 17 _ rfl (by omega) (by omega))
          iterate 1 still_step
          still_call (turned_any x8 19 19 _ rfl (by omega) (by omega))
          iterate 6 still_step
          refine wpStill_nil ?_
          go_wp2
          go_roundw
          case rel =>
            refine ⟨K + 1, by omega, by omega, by go_num, ?_, ?_, ?_⟩
            · exact hR.out.other _ _ (by omega)
            · rw [← unhide HX, unhide HN]
              refine hW.out.setW' K _ _ ?_
              rw [u_shr3 x3, u_shr10 x8, u_xor, u_xor, u_xor, u_xor]
              exact u_add4 _ _ _ _
            · exact (hb.out.setCell (p := ⟨w.heap.size + 1 + 1, K, none⟩) (by show _ ≤ _ + 1 + 1; omega) _).drew.drew
          case measure => simp [intOf]; omega
        · obtain rfl : K = 64 := by omega
          rw [padw_full _ _ (sch2_length m 64)] at hW
          go_wp2_with (first | refine wpL_load rfl 113 _ rfl _ rfl 113 _ _ _ hW.out Tryd.underlying113 (by rw [i64, us_length, sch2_length]) ?_ | (refine wpL_store rfl 113 _ _ rfl _ rfl _ rfl 113 _ hR.out (by rw [us_length, us_length, sch2_length]; rfl) (by rw [i64, us_length, sch2_length]) (us_one _) ?_; intro w9 c9 g9))
          exact bodyPost_ret (results_cel rfl _ _ _ _ _ _ _ rfl c9 Tryd.underlying113 (by rw [i64, us_length, sch2_length])) rfl ⟨rfl, hb.out.grown g9 hb.out.size (fun k hk => by cases hk; omega)⟩
#print axioms sched2_any
end Go.Proofs.YthhcaalafacjlaaDoor
end
section
set_option linter.unusedVariables false
namespace Go.Proofs.YthhcaalafacjlaaDoor
open Go.RowKit

/-- The two tables, as the program's text lays them. -/
structure Tb (w : World) : Prop where
  i2 : ∀ i, i < 8 → w.cell? ⟨0, i, none⟩ = some (.int .u32 ((ini2.list.getD i 0).toNat : Int))
  r2 : ∀ i, i < 64 → w.cell? ⟨1, i, none⟩ = some (.int .u32 ((k2 i).toNat : Int))
theorem Tb.big {w : World} (h : Tb w) : 2 ≤ w.heap.size := by
  have := World.block_lt_of_cell? w _ (h.r2 0 (by omega))
  exact this
theorem Tb.below {w w' : World} {B : Nat} (h : Tb w) (hb : Below B w w') (hB : 2 ≤ B) : Tb w' :=
  ⟨fun i hi => by rw [hb.cell (by show 0 < B; omega)]; exact h.i2 i hi, fun i hi => by rw [hb.cell (by show 1 < B; omega)]; exact h.r2 i hi⟩

theorem run_idx (w : World) (t : TypeId) (n : Nat) (l : List UInt32) (k : Nat) (hu : Tryd.prog.underlying t = some (.array n 94)) (hl : l.length = n) (hk : k < n) :
    (Instr.index t (.agg (us l).toArray) (.int .i64 (k : Int))).run Tryd.prog w = .ok (.int .u32 ((l.getD k 0).toNat : Int)) w := by
  have hn : 0 ≤ (k : Int) ∧ (k : Int) < (n : Int) := by omega
  have hg := us_get l k (by omega)
  simp [Instr.index, run_underlying hu, asIntOf, go_sem, hk, hg]

end Go.Proofs.YthhcaalafacjlaaDoor
end
section
set_option linter.unusedVariables false
namespace Go.Proofs.YthhcaalafacjlaaDoor
open Go.RowKit

theorem turned_i (x : UInt32) (k : Int) (w : World) (h1 : 1 ≤ k) (h2 : k ≤ 31) :
    Calls Tryd.prog 75 #[.int .u32 (x.toNat : Int), .int .i64 k] w fun e w' => e = .returned (.int .u32 ((rotr x k.toNat).toNat : Int)) ∧ w' = w :=
  turned_any x k k.toNat w (by omega) (by omega) (by omega)

set_option maxRecDepth 1000000 in
set_option maxHeartbeats 4000000 in
theorem beh2_core (s : S8) (m : List UInt8) (w : World) (hm : m.length = 64) (hT : Tb w) (L : List UInt32) (hL : L.length = 64) (R : Nat → S8) (R0 : R 0 = s) (RS : ∀ n, R (n + 1) = step2 n (L.getD n 0) (R n))
    (hsch : ∀ w, Calls Tryd.prog 74 #[.agg (bs m).toArray] w fun e w' => e = .returned (.agg (us L).toArray) ∧ Below w.heap.size w w') :
    Calls Tryd.prog 59 #[.agg #[.int .u32 (s.a.toNat : Int), .int .u32 (s.b.toNat : Int), .int .u32 (s.c.toNat : Int), .int .u32 (s.d.toNat : Int), .int .u32 (s.e.toNat : Int), .int .u32 (s.f.toNat : Int), .int .u32 (s.g.toNat : Int), .int .u32 (s.h.toNat : Int)], .agg (bs m).toArray] w
      fun e w' => e = .returned (.agg (us [s.a + (R 64).a, s.b + (R 64).b, s.c + (R 64).c, s.d + (R 64).d, s.e + (R 64).e, s.f + (R 64).f, s.g + (R 64).g, s.h + (R 64).h]).toArray) ∧ Below w.heap.size w w' := by
  have HT := hide hT
  have HM : Hid (m.length = 64) := hm
  have HL := hide hL
  have HR0 := hide R0
  have HRS := hide RS
  have HS := hide hsch
  clear hT hm hL R0 RS hsch
  go_enter Tryd.func59, Tryd.ntmps59
  go_wp2
  go_quiet (fail)
  have hC : Cel ((((w.alloc (.cells #[.int .u32 (s.a.toNat : Int), .int .u32 (s.b.toNat : Int), .int .u32 (s.c.toNat : Int), .int .u32 (s.d.toNat : Int), .int .u32 (s.e.toNat : Int), .int .u32 (s.f.toNat : Int), .int .u32 (s.g.toNat : Int), .int .u32 (s.h.toNat : Int)] 96)).alloc (.cells (bs m).toArray 71)).alloc (.cells #[.int .u32 0, .int .u32 0, .int .u32 0, .int .u32 0, .int .u32 0, .int .u32 0, .int .u32 0, .int .u32 0] 96)).drewN nq) (w.heap.size + 1) 71 (bs m) := ((Cel.newAt _ _ (bs m) _ (by simp)).alloc _).drewN nq
  have hC0 : Cel ((((w.alloc (.cells #[.int .u32 (s.a.toNat : Int), .int .u32 (s.b.toNat : Int), .int .u32 (s.c.toNat : Int), .int .u32 (s.d.toNat : Int), .int .u32 (s.e.toNat : Int), .int .u32 (s.f.toNat : Int), .int .u32 (s.g.toNat : Int), .int .u32 (s.h.toNat : Int)] 96)).alloc (.cells (bs m).toArray 71)).alloc (.cells #[.int .u32 0, .int .u32 0, .int .u32 0, .int .u32 0, .int .u32 0, .int .u32 0, .int .u32 0, .int .u32 0] 96)).drewN nq) w.heap.size 96 (us s.list) := (((Cel.newAt w _ (us s.list) _ rfl).alloc _).alloc _).drewN nq
  have hCR : Cel ((((w.alloc (.cells #[.int .u32 (s.a.toNat : Int), .int .u32 (s.b.toNat : Int), .int .u32 (s.c.toNat : Int), .int .u32 (s.d.toNat : Int), .int .u32 (s.e.toNat : Int), .int .u32 (s.f.toNat : Int), .int .u32 (s.g.toNat : Int), .int .u32 (s.h.toNat : Int)] 96)).alloc (.cells (bs m).toArray 71)).alloc (.cells #[.int .u32 0, .int .u32 0, .int .u32 0, .int .u32 0, .int .u32 0, .int .u32 0, .int .u32 0, .int .u32 0] 96)).drewN nq) (w.heap.size + 1 + 1) 96 (us [0, 0, 0, 0, 0, 0, 0, 0]) := (Cel.newAt _ _ (us [0, 0, 0, 0, 0, 0, 0, 0]) _ (by simp)).drewN nq
  have hB0 : Below w.heap.size w ((((w.alloc (.cells #[.int .u32 (s.a.toNat : Int), .int .u32 (s.b.toNat : Int), .int .u32 (s.c.toNat : Int), .int .u32 (s.d.toNat : Int), .int .u32 (s.e.toNat : Int), .int .u32 (s.f.toNat : Int), .int .u32 (s.g.toNat : Int), .int .u32 (s.h.toNat : Int)] 96)).alloc (.cells (bs m).toArray 71)).alloc (.cells #[.int .u32 0, .int .u32 0, .int .u32 0, .int .u32 0, .int .u32 0, .int .u32 0, .int .u32 0, .int .u32 0] 96)).drewN nq) := bdrewN ((((Below.refl _ _).alloc (Nat.le_refl _) _).alloc (by simp) _).alloc (by simp; omega) _) nq
  have hsz : w.heap.size + 1 + 1 < ((((w.alloc (.cells #[.int .u32 (s.a.toNat : Int), .int .u32 (s.b.toNat : Int), .int .u32 (s.c.toNat : Int), .int .u32 (s.d.toNat : Int), .int .u32 (s.e.toNat : Int), .int .u32 (s.f.toNat : Int), .int .u32 (s.g.toNat : Int), .int .u32 (s.h.toNat : Int)] 96)).alloc (.cells (bs m).toArray 71)).alloc (.cells #[.int .u32 0, .int .u32 0, .int .u32 0, .int .u32 0, .int .u32 0, .int .u32 0, .int .u32 0, .int .u32 0] 96)).drewN nq).heap.size := hCR.lt
  generalize ((((w.alloc (.cells #[.int .u32 (s.a.toNat : Int), .int .u32 (s.b.toNat : Int), .int .u32 (s.c.toNat : Int), .int .u32 (s.d.toNat : Int), .int .u32 (s.e.toNat : Int), .int .u32 (s.f.toNat : Int), .int .u32 (s.g.toNat : Int), .int .u32 (s.h.toNat : Int)] 96)).alloc (.cells (bs m).toArray 71)).alloc (.cells #[.int .u32 0, .int .u32 0, .int .u32 0, .int .u32 0, .int .u32 0, .int .u32 0, .int .u32 0, .int .u32 0] 96)).drewN nq) = w1 at *
  have HC := hide hC
  have HC0 := hide hC0
  have HCR := hide hCR
  have HB0 := hide hB0
  have HSZ := hide hsz
  clear hC hC0 hCR hB0 hsz
  go_wp2_with (first | refine wpL_load rfl 71 _ rfl _ rfl 71 _ _ _ HC.out Tryd.underlying71 (by rw [bs_length, HM.out]; kernel_rfl) ?_ | (go_at_call 74; refine (HS.out _).mono ?_; rintro e w2 ⟨rfl, hb2⟩))
  have HC0' := hide (HC0.out.below hb2 (Nat.lt_of_le_of_lt (by omega) HSZ.out))
  have HCR' := hide (HCR.out.below hb2 HSZ.out)
  have HB2 := hide (HB0.out.trans (hb2.mono (Nat.le_of_lt (Nat.lt_of_le_of_lt (by omega) HSZ.out))))
  have HT2 := hide (HT.out.below HB2.out HT.out.big)
  clear hb2
  go_loopw [5, 6, 7, 8, 9, 10, 11, 12, 35] (fun va vb vc vd ve vf vg vh v wr => ∃ k : Nat, k ≤ 64 ∧ v = .int .i64 (k : Int) ∧ va = .int .u32 ((R k).a.toNat : Int) ∧ vb = .int .u32 ((R k).b.toNat : Int) ∧ vc = .int .u32 ((R k).c.toNat : Int) ∧ vd = .int .u32 ((R k).d.toNat : Int) ∧ ve = .int .u32 ((R k).e.toNat : Int) ∧ vf = .int .u32 ((R k).f.toNat : Int) ∧ vg = .int .u32 ((R k).g.toNat : Int) ∧ vh = .int .u32 ((R k).h.toNat : Int) ∧ Hid (Cel wr w.heap.size 96 (us s.list)) ∧ Hid (Cel wr (w.heap.size + 1 + 1) 96 (us [0, 0, 0, 0, 0, 0, 0, 0])) ∧ Hid (Below w.heap.size w wr) ∧ Hid (Tb wr)) (fun _ _ _ _ _ _ _ _ v _ => 64 - (intOf v).toNat)
  case atStart =>
    refine ⟨0, ?_⟩
    rw [HR0.out]
    exact ⟨Nat.zero_le _, rfl, rfl, rfl, rfl, rfl, rfl, rfl, rfl, rfl, HC0', HCR', HB2, HT2⟩
  case round =>
    clear HC0' HCR' HB2 HT2 HC HC0 HCR HB0 HSZ
    obtain ⟨k, hk, rfl, rfl, rfl, rfl, rfl, rfl, rfl, rfl, rfl, hC0, hCR, hb, hT⟩ := hrel
    by_cases hlt : k < 64
    · have hidx := fun w => run_idx w 113 64 L k Tryd.underlying113 HL.out hlt
      have HN : Hid (R (k + 1) = step2 k (L.getD k 0) (R k)) := HRS.out k
      generalize L.getD k 0 = x at *
      generalize R k = r at *
      have hq0 : (0 : Int) ≤ (k : Int) := by omega
      have hq4 : (k : Int) < 64 := by omega
      have cT := hT.out.r2 k (by omega)
      obtain ⟨SE, hSE⟩ : ∃ y, rotr r.e 6 ^^^ rotr r.e 11 ^^^ rotr r.e 25 = y := ⟨_, rfl⟩
      have eSE : bits .xor .u32 (bits .xor .u32 ((rotr r.e 6).toNat : Int) ((rotr r.e 11).toNat : Int)) ((rotr r.e 25).toNat : Int) = (SE.toNat : Int) := by rw [u_xor, u_xor, hSE]
      obtain ⟨SA, hSA⟩ : ∃ y, rotr r.a 2 ^^^ rotr r.a 13 ^^^ rotr r.a 22 = y := ⟨_, rfl⟩
      have eSA : bits .xor .u32 (bits .xor .u32 ((rotr r.a 2).toNat : Int) ((rotr r.a 13).toNat : Int)) ((rotr r.a 22).toNat : Int) = (SA.toNat : Int) := by rw [u_xor, u_xor, hSA]
      obtain ⟨O, hO⟩ : ∃ y, r.h + SE + chs r.e r.f r.g + k2 k + x = y := ⟨_, rfl⟩
      have eO := u_add5 r.h SE (chs r.e r.f r.g) (k2 k) x
      rw [hO] at eO
      obtain ⟨F, hF⟩ : ∃ y, O + SA + maj r.a r.b r.c = y := ⟨_, rfl⟩
      have eF := u_add3 O SA (maj r.a r.b r.c)
      rw [hF] at eF
      obtain ⟨D, hD⟩ : ∃ y, r.d + O = y := ⟨_, rfl⟩
      have eD := u_add2 r.d O
      rw [hD] at eD
      have HV : Hid (step2 k x r = ⟨F, r.a, r.b, r.c, D, r.e, r.f, r.g⟩) := by
        show _ = _
        have h1 : one2 k x r = O := by rw [← hO, ← hSE]; rfl
        have h2 : two2 r = SA := hSA
        unfold step2
        rw [h1, h2, hF, hD]
      clear hSE hSA hO hF hD
      generalize k2 k = kt at *
      go_wp2
      go_quiet (first | (go_at_call 75; exact Calls.quiet_of_same (turned_i _ _ _ (by omega) (by omega))) | (go_at_call 76; exact Calls.quiet_of_same (choose_any _ _ _ _)))
      go_wp2_with (first | (go_at_call 75; refine (turned_i _ _ _ (by omega) (by omega)).mono ?_; rintro e w' ⟨rfl, rfl⟩) | (go_at_call 77; refine (maj_any _ _ _ _).mono ?_; rintro e w' ⟨rfl, rfl⟩))
      go_roundw
      case rel =>
        refine ⟨k + 1, ?_⟩
        rw [HN.out, HV.out]
        exact ⟨by omega, by go_num, int_eq (by show _ = (F.toNat : Int); omega), rfl, rfl, rfl, int_eq eD, rfl, rfl, rfl, hC0.out.drewN nq, hCR.out.drewN nq, bdrewN hb.out nq, hT.out.below (bdrewN (Below.refl 2 _) nq) (Nat.le_refl _)⟩
      case measure => simp [intOf]; omega
    · obtain rfl : k = 64 := by omega
      have c0 := hC0.out.word 0 (by show 0 < 8; omega)
      have c1 := hC0.out.word 1 (by show 1 < 8; omega)
      have c2 := hC0.out.word 2 (by show 2 < 8; omega)
      have c3 := hC0.out.word 3 (by show 3 < 8; omega)
      have c4 := hC0.out.word 4 (by show 4 < 8; omega)
      have c5 := hC0.out.word 5 (by show 5 < 8; omega)
      have c6 := hC0.out.word 6 (by show 6 < 8; omega)
      have c7 := hC0.out.word 7 (by show 7 < 8; omega)
      simp only [S8.list, List.getD_cons_zero, List.getD_cons_succ] at c0 c1 c2 c3 c4 c5 c6 c7
      obtain ⟨r, hr⟩ : ∃ r, R 64 = r := ⟨_, rfl⟩
      rw [hr]
      have HR := hide hr
      clear hr
      obtain ⟨A, hA⟩ : ∃ x, s.a + r.a = x := ⟨_, rfl⟩
      have eA := u_add2 s.a r.a
      rw [hA] at eA
      have HA := hide hA
      clear hA
      obtain ⟨B, hB⟩ : ∃ x, s.b + r.b = x := ⟨_, rfl⟩
      have eB := u_add2 s.b r.b
      rw [hB] at eB
      have HB := hide hB
      clear hB
      obtain ⟨C, hC⟩ : ∃ x, s.c + r.c = x := ⟨_, rfl⟩
      have eC := u_add2 s.c r.c
      rw [hC] at eC
      have HC := hide hC
      clear hC
      obtain ⟨D, hD⟩ : ∃ x, s.d + r.d = x := ⟨_, rfl⟩
      have eD := u_add2 s.d r.d
      rw [hD] at eD
      have HD := hide hD
      clear hD
      obtain ⟨E, hE⟩ : ∃ x, s.e + r.e = x := ⟨_, rfl⟩
      have eE := u_add2 s.e r.e
      rw [hE] at eE
      have HE := hide hE
      clear hE
      obtain ⟨F, hF⟩ : ∃ x, s.f + r.f = x := ⟨_, rfl⟩
      have eF := u_add2 s.f r.f
      rw [hF] at eF
      have HF := hide hF
      clear hF
      obtain ⟨G, hG⟩ : ∃ x, s.g + r.g = x := ⟨_, rfl⟩
      have eG := u_add2 s.g r.g
      rw [hG] at eG
      have HG := hide hG
      clear hG
      obtain ⟨H, hH⟩ : ∃ x, s.h + r.h = x := ⟨_, rfl⟩
      have eH := u_add2 s.h r.h
      rw [hH] at eH
      have HH := hide hH
      clear hH
      go_wp2_with (refine wpL_store rfl 96 _ _ rfl _ rfl (us [A, B, C, D, E, F, G, H]) rfl 96 _ hCR.out rfl (by kernel_rfl) (us_one _) ?_; intro w9 c9 g9)
      refine bodyPost_ret (results_cel rfl _ _ _ _ _ _ _ rfl c9 Tryd.underlying96 (by kernel_rfl)) rfl ⟨?_, hb.out.grown g9 hb.out.size (fun k hk => by cases hk; omega)⟩
      rw [HR.out, HA.out, HB.out, HC.out, HD.out, HE.out, HF.out, HG.out, HH.out]
theorem beh2_any (s : S8) (m : List UInt8) (w : World) (hm : m.length = 64) (hT : Tb w) :
    Calls Tryd.prog 59 #[.agg (us s.list).toArray, .agg (bs m).toArray] w
      fun e w' => e = .returned (.agg (us (beh2 s m).list).toArray) ∧ Below w.heap.size w w' := by
  rw [beh2_eq]
  exact beh2_core s m w hm hT (sch2 m 64) (sch2_length m 64) (rnd2 (sch2 m 64) s) rfl (rnd2_succ _ _) (fun w => sched2_any m w hm)
#print axioms beh2_any
end Go.Proofs.YthhcaalafacjlaaDoor
end
