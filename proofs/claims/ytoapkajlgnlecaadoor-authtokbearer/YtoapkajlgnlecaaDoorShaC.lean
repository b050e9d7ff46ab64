/-
  THE WALK of digest's longSchedule.
-/
import Derived.Test.YtoapkajlgnlecaaDoorShaB
import Derived.StillTailTactics
set_option linter.unusedVariables false
namespace Go.Proofs.YtoapkajlgnlecaaDoor
open Go.RowKit

/-- A region that reads, calls what changes nothing, and ends in what is forced. -/
theorem rs_tail {P : Program} {id : Nat} {Q : Exit → Act → World → Prop} {a : Act} {w : World} {l : List Oper} (n : Nat) (hm : P.follows .mixedOrders = true) (hB : Region.lexTailB .any l.toArray n = true)
    (h : wpStill P l.toArray w.drew (fun a' => wpList P l.toArray Q (l.drop n) a' w.drew) (l.take n) a) : (Code.region id l.toArray true).wp P Q a w := wp_region_still_tail n hm hB h
theorem follows : Tryd.prog.follows .mixedOrders = true := by kernel_rfl

theorem zero64 : (Tryd.prog.info? 117).map (fun i => (i.zero, i.size)) = some (some (.agg (us (List.replicate 64 0)).toArray), 64) := by kernel_rfl
theorem sch2_next (m : List UInt8) (k : Nat) (h : k < 64) : (padw (sch2 m k) 64).set k (nxt2 m (sch2 m k) k) = padw (sch2 m (k + 1)) 64 := padw_set _ _ _ _ (sch2_length m k) h
def g7 (x : UInt32) : UInt32 := rotr x 7 ^^^ rotr x 18 ^^^ (x >>> 3)
def g17 (y : UInt32) : UInt32 := rotr y 17 ^^^ rotr y 19 ^^^ (y >>> 10)

theorem u_shr3 (x : UInt32) : (x.toNat : Int) / (8 : Int) = ((x >>> 3).toNat : Int) := by
  have := u_shr x 3 (by omega)
  exact this
theorem u_shr10 (x : UInt32) : (x.toNat : Int) / (1024 : Int) = ((x >>> 10).toNat : Int) := by
  have := u_shr x 10 (by omega)
  exact this
theorem u_add2 (a b : UInt32) : ((a.toNat : Int) + (b.toNat : Int)) % 4294967296 = ((a + b).toNat : Int) := by
  simp only [UInt32.toNat_add]; omega
theorem u_add3 (a b c : UInt32) : ((a.toNat : Int) + (b.toNat : Int) + (c.toNat : Int)) % 4294967296 = ((a + b + c).toNat : Int) := by
  simp only [UInt32.toNat_add]; omega
theorem u_add4 (a b c d : UInt32) : ((a.toNat : Int) + (b.toNat : Int) + (c.toNat : Int) + (d.toNat : Int)) % 4294967296 = ((a + b + c + d).toNat : Int) := by
  simp only [UInt32.toNat_add]; omega
theorem u_add5 (a b c d e : UInt32) : ((a.toNat : Int) + (b.toNat : Int) + (c.toNat : Int) + (d.toNat : Int) + (e.toNat : Int)) % 4294967296 = ((a + b + c + d + e).toNat : Int) := by
  simp only [UInt32.toNat_add]; omega

set_option maxRecDepth 1000000 in
set_option maxHeartbeats 2000000 in
theorem sched2_any (m : List UInt8) (w : World) (hm : m.length = 64) :
    Calls Tryd.prog 64 #[.agg (bs m).toArray] w fun e w' => e = .returned (.agg (us (sch2 m 64)).toArray) ∧ Below w.heap.size w w' := by
  obtain ⟨z64, i64⟩ := zero_of_info zero64
  have HM : Hid (m.length = 64) := hm
  clear hm
  go_enter Tryd.func64, Tryd.ntmps64
  go_wp2
  go_loopw [8] (fun v wr => ∃ k : Nat, k ≤ 16 ∧ v = .int .i64 (k : Int) ∧ Hid (Cel wr w.heap.size 65 (bs m)) ∧ Hid (Cel wr (w.heap.size + 1) 117 (us (List.replicate 64 0))) ∧ Hid (Cel wr (w.heap.size + 1 + 1) 117 (us (padw (sch2 m k) 64))) ∧ Hid (Below w.heap.size w wr)) (fun v _ => 16 - (intOf v).toNat)
  case atStart =>
    refine ⟨0, Nat.zero_le _, rfl, ?_, ?_, ?_, ?_⟩
    · exact ((Cel.new w _ (bs m)).alloc _).alloc _
    · exact (Cel.newAt _ _ _ _ (by simp)).alloc _
    · exact Cel.newAt _ _ _ _ (by simp)
    · exact (((Below.refl _ _).alloc (Nat.le_refl _) _).alloc (by simp) _).alloc (by simp; omega) _
  case round =>
    obtain ⟨k, hk, rfl, hB, hR, hW, hb⟩ := hrel
    by_cases hlt : k < 16
    · have hl := padw_length (sch2 m k) 64 (by rw [sch2_length]; omega)
      have cS := hW.out.word k (by rw [hl]; omega)
      have fS := hW.out.fr k
      have HN : Hid (nxt2 m (sch2 m k) k = wd m k) := by show _ = _; simp [nxt2, hlt]
      have HX := hide (sch2_next m k (by omega))
      clear hl
      go_wp2_with (go_at_call 71; refine (word_any w.heap.size _ m k _ hB.out HM.out hlt).mono ?_; rintro e w' ⟨rfl, nq, rfl⟩)
      go_roundw
      case rel =>
        refine ⟨k + 1, by omega, by go_num, (hB.out.drewN nq).other _ _ (by omega), (hR.out.drewN nq).other _ _ (by omega), ?_, (bdrewN hb.out nq).setCell (by show _ ≤ _ + 1 + 1; omega) _⟩
        rw [← unhide HX, unhide HN]
        exact (hW.out.drewN nq).setW k _
      case measure => simp [intOf]; omega
    · obtain rfl : k = 16 := by omega
      rw [show ((16 : Nat) : Int) = 16 from rfl]
      go_wp2
      go_loopw [5] (fun v wr2 => ∃ K : Nat, 16 ≤ K ∧ K ≤ 64 ∧ v = .int .i64 (K : Int) ∧ Hid (Cel wr2 (w.heap.size + 1) 117 (us (List.replicate 64 0))) ∧ Hid (Cel wr2 (w.heap.size + 1 + 1) 117 (us (padw (sch2 m K) 64))) ∧ Hid (Below w.heap.size w wr2)) (fun v _ => 64 - (intOf v).toNat)
      case atStart => exact ⟨16, by omega, by omega, rfl, hR, hW, hb⟩
      case round =>
        clear hB hR hW hb
        obtain ⟨K, hK1, hK2, rfl, hR, hW, hb⟩ := hrel
        by_cases hlt : K < 64
        · have HX := hide (sch2_next m K (by omega))
          have hl := padw_length (sch2 m K) 64 (by rw [sch2_length]; omega)
          obtain ⟨P3, hP3⟩ : ∃ P, P + 15 = K := ⟨K - 15, by omega⟩
          obtain ⟨P8, hP8⟩ : ∃ P, P + 2 = K := ⟨K - 2, by omega⟩
          obtain ⟨P14, hP14⟩ : ∃ P, P + 16 = K := ⟨K - 16, by omega⟩
          obtain ⟨P16, hP16⟩ : ∃ P, P + 7 = K := ⟨K - 7, by omega⟩
          have cS := hW.out.word K (by rw [hl]; omega)
          have fS := hW.out.fr K
          have c3 := hW.out.word P3 (by rw [hl]; omega)
          have c8 := hW.out.word P8 (by rw [hl]; omega)
          have c14 := hW.out.word P14 (by rw [hl]; omega)
          have c16 := hW.out.word P16 (by rw [hl]; omega)
          rw [padw_get _ _ _ (by rw [sch2_length]; omega)] at c3 c8 c14 c16
          have HN : Hid (nxt2 m (sch2 m K) K = (sch2 m K).getD P14 0 + g7 ((sch2 m K).getD P3 0) + (sch2 m K).getD P16 0 + g17 ((sch2 m K).getD P8 0)) := by
            show _ = _
            unfold nxt2
            rw [if_neg (by omega)]
            have e3 : K - 15 = P3 := by omega
            have e8 : K - 2 = P8 := by omega
            have e14 : K - 16 = P14 := by omega
            have e16 : K - 7 = P16 := by omega
            rw [e3, e8, e14, e16]
            rfl
          generalize (sch2 m K).getD P3 0 = x3 at *
          generalize (sch2 m K).getD P8 0 = x8 at *
          generalize (sch2 m K).getD P14 0 = x14 at *
          generalize (sch2 m K).getD P16 0 = x16 at *
          clear hl
          have q3 : IntKind.i64.wrap ((K : Int) - 15) = (P3 : Int) := by rw [IntKind.wrap_i64]; omega
          have q8 : IntKind.i64.wrap ((K : Int) - 2) = (P8 : Int) := by rw [IntKind.wrap_i64]; omega
          have q14 : IntKind.i64.wrap ((K : Int) - 16) = (P14 : Int) := by rw [IntKind.wrap_i64]; omega
          have q16 : IntKind.i64.wrap ((K : Int) - 7) = (P16 : Int) := by rw [IntKind.wrap_i64]; omega
          have b3 : (0 : Int) ≤ (P3 : Int) ∧ (P3 : Int) < 64 := by omega
          have b8 : (0 : Int) ≤ (P8 : Int) ∧ (P8 : Int) < 64 := by omega
          have b14 : (0 : Int) ≤ (P14 : Int) ∧ (P14 : Int) < 64 := by omega
          have b16 : (0 : Int) ≤ (P16 : Int) ∧ (P16 : Int) < 64 := by omega
          have bK : (0 : Int) ≤ (K : Int) ∧ (K : Int) < 64 := by omega
          clear hP3 hP8 hP14 hP16
          go_wp2
          go_region_held3 (fun w' => w'.cell? ⟨w.heap.size + 1 + 1, P3, none⟩ = some (.int .u32 (x3.toNat : Int)) ∧ w'.cell? ⟨w.heap.size + 1 + 1, P8, none⟩ = some (.int .u32 (x8.toNat : Int))) (go_keep) (fail)
          go_wp2
          refine rs_tail 29 follows (by kernel_rfl) ?_
          simp only [List.take_succ_cons, List.take_zero, List.drop_succ_cons, List.drop_zero]
          iterate 6 still_step
          still_call (turned_any x3 7 7 _ rfl (by omega) (by omega))
          iterate 1 still_step
          still_call (turned_any x3 18 18 _ rfl (by omega) (by omega))
          iterate 11 still_step
          still_call (turned_any x8 17 17 _ rfl (by omega) (by omega))
          iterate 1 still_step
          still_call (turned_any x8 19 19 _ rfl (by omega) (by omega))
          iterate 6 still_step
          refine wpStill_nil ?_
          go_wp2
          go_roundw
          case rel =>
            refine ⟨K + 1, by omega, by omega, by go_num, ?_, ?_, ?_⟩
            · exact hR.out.other _ _ (by omega)
            · rw [← unhide HX, unhide HN]
              refine hW.out.setW' K _ _ ?_
              rw [u_shr3 x3, u_shr10 x8, u_xor, u_xor, u_xor, u_xor]
              exact u_add4 _ _ _ _
            · exact (hb.out.setCell (p := ⟨w.heap.size + 1 + 1, K, none⟩) (by show _ ≤ _ + 1 + 1; omega) _).drew.drew
          case measure => simp [intOf]; omega
        · obtain rfl : K = 64 := by omega
          rw [padw_full _ _ (sch2_length m 64)] at hW
          go_wp2_with (first | refine wpL_load rfl 117 _ rfl _ rfl 117 _ _ _ hW.out Tryd.underlying117 (by rw [i64, us_length, sch2_length]) ?_ | (refine wpL_store rfl 117 _ _ rfl _ rfl _ rfl 117 _ hR.out (by rw [us_length, us_length, sch2_length]; rfl) (by rw [i64, us_length, sch2_length]) (us_one _) ?_; intro w9 c9 g9))
          exact bodyPost_ret (results_cel rfl _ _ _ _ _ _ _ rfl c9 Tryd.underlying117 (by rw [i64, us_length, sch2_length])) rfl ⟨rfl, hb.out.grown g9 hb.out.size (fun k hk => by cases hk; omega)⟩
#print axioms sched2_any
end Go.Proofs.YtoapkajlgnlecaaDoor
