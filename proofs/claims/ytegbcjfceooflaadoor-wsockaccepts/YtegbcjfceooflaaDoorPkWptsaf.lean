/-
  THE WALKS of digest's word, shortSchedule, longSchedule.
-/
import Derived.Test.YtegbcjfceooflaaDoorPkWptsac
import Derived.Test.YtegbcjfceooflaaDoorPkWptsae
import Derived.Test.YtegbcjfceooflaaDoorPkWptsad
import Derived.WalkSpells
import Derived.WalkLawsBesides
import Derived.Deep.QuietTactic
import Derived.BigQuiet
import Derived.BigRegion
import Derived.Deep.RegionHeld3
import Derived.Deep.WholeRow
section
set_option linter.unusedVariables false
namespace Go.Proofs.YtegbcjfceooflaaDoor
open Go.RowKit

theorem b4_lt (a b c d : UInt8) : a.toNat * 16777216 + b.toNat * 65536 + c.toNat * 256 + d.toNat < 4294967296 := by
  have := a.toNat_lt; have := b.toNat_lt; have := c.toNat_lt; have := d.toNat_lt; omega
theorem b4_nat (a b c d : UInt8) : (b4 a b c d).toNat = a.toNat * 16777216 + b.toNat * 65536 + c.toNat * 256 + d.toNat := by
  have := b4_lt a b c d
  simp only [b4, UInt32.toNat_ofNat']
  exact Nat.mod_eq_of_lt this
theorem b4_or (a b c d : UInt8) : bits .or .u32 (bits .or .u32 (bits .or .u32 ((a.toNat : Int) * 16777216) ((b.toNat : Int) * 65536)) ((c.toNat : Int) * 256)) (d.toNat : Int) = ((b4 a b c d).toNat : Int) := by
  have ha := a.toNat_lt; have hb := b.toNat_lt; have hc := c.toNat_lt; have hd := d.toNat_lt
  have e1 := u32_or_nat (a.toNat * 16777216) (b.toNat * 65536) (by omega) (by omega)
  rw [nat_join 24 _ _ (by omega) (by omega)] at e1
  have e2 := u32_or_nat (a.toNat * 16777216 + b.toNat * 65536) (c.toNat * 256) (by omega) (by omega)
  rw [nat_join 16 _ _ (by omega) (by omega)] at e2
  have e3 := u32_or_nat (a.toNat * 16777216 + b.toNat * 65536 + c.toNat * 256) d.toNat (by omega) (by omega)
  rw [nat_join 8 _ _ (by omega) (by omega)] at e3
  rw [b4_nat, ← e3, ← e2, ← e1]
  simp only [Int.natCast_mul]
  rfl

theorem b4_or' (a b c d : UInt8) : bits .or .u32 (bits .or .u32 (bits .or .u32 ((a.toNat : Int) % 4294967296 * 16777216 % 4294967296) ((b.toNat : Int) % 4294967296 * 65536 % 4294967296)) ((c.toNat : Int) % 4294967296 * 256 % 4294967296)) ((d.toNat : Int) % 4294967296) = ((b4 a b c d).toNat : Int) := by
  have ha := a.toNat_lt; have hb := b.toNat_lt; have hc := c.toNat_lt; have hd := d.toNat_lt
  rw [← b4_or]
  congr 1
  · congr 1
    · congr 1 <;> omega
    · omega
  · omega

set_option maxHeartbeats 1000000 in
theorem word_any (C : Nat) (t : TypeId) (m : List UInt8) (i : Nat) (w : World) (hc : Cel w C t (bs m)) (hm : m.length = 64) (hi : i < 16) :
    Calls Tryd.prog 76 #[.pointer (some ⟨C, 0, none⟩), .int .i64 (i : Int)] w fun e w' => e = .returned (.int .u32 ((wd m i).toNat : Int)) ∧ ∃ n, w' = w.drewN n := by
  have c0 := hc.byte (4 * i) (by omega)
  have c1 := hc.byte (4 * i + 1) (by omega)
  have c2 := hc.byte (4 * i + 2) (by omega)
  have c3 := hc.byte (4 * i + 3) (by omega)
  have HW : Hid (wd m i = b4 (m.getD (4 * i) 0) (m.getD (4 * i + 1) 0) (m.getD (4 * i + 2) 0) (m.getD (4 * i + 3) 0)) := rfl
  generalize m.getD (4 * i) 0 = x0 at *
  generalize m.getD (4 * i + 1) 0 = x1 at *
  generalize m.getD (4 * i + 2) 0 = x2 at *
  generalize m.getD (4 * i + 3) 0 = x3 at *
  clear hc hm
  have h1 : (0 : Int) ≤ (i : Int) := by omega
  have h2 : (i : Int) < 16 := by omega
  go_enter Tryd.func76, Tryd.ntmps76
  go_wp2
  go_quiet (fail)
  go_wp2
  go_ret
  exact ⟨ret_int (by rw [HW.out]; exact b4_or' x0 x1 x2 x3), nq, rfl⟩

theorem zero80 : (Tryd.prog.info? 110).map (fun i => (i.zero, i.size)) = some (some (.agg (us (List.replicate 80 0)).toArray), 80) := by kernel_rfl
theorem sch1_next (m : List UInt8) (k : Nat) (h : k < 80) : (padw (sch1 m k) 80).set k (nxt1 m (sch1 m k) k) = padw (sch1 m (k + 1)) 80 := padw_set _ _ _ _ (sch1_length m k) h

set_option maxRecDepth 1000000 in
set_option maxHeartbeats 1000000 in
theorem sched1_any (m : List UInt8) (w : World) (hm : m.length = 64) :
    Calls Tryd.prog 59 #[.agg (bs m).toArray] w fun e w' => e = .returned (.agg (us (sch1 m 80)).toArray) ∧ Below w.heap.size w w' := by
  obtain ⟨z80, i80⟩ := zero_of_info zero80
  have HM : Hid (m.length = 64) := hm
  clear hm
  go_enter Tryd.func59, Tryd.ntmps59
  go_wp2
  go_loopw [6] (fun v wr => ∃ k : Nat, k ≤ 16 ∧ v = .int .i64 (k : Int) ∧ Hid (Cel wr w.heap.size 74 (bs m)) ∧ Hid (Cel wr (w.heap.size + 1) 110 (us (List.replicate 80 0))) ∧ Hid (Cel wr (w.heap.size + 1 + 1) 110 (us (padw (sch1 m k) 80))) ∧ Hid (Below w.heap.size w wr)) (fun v _ => 16 - (intOf v).toNat)
  case atStart =>
    refine ⟨0, Nat.zero_le _, rfl, ?_, ?_, ?_, ?_⟩
    · exact ((Cel.new w _ (bs m)).alloc _).alloc _
    · exact (Cel.newAt _ _ _ _ (by simp)).alloc _
    · exact Cel.newAt _ _ _ _ (by simp)
    · exact (((Below.refl _ _).alloc (Nat.le_refl _) _).alloc (by simp) _).alloc (by simp; omega) _
  case round =>
    obtain ⟨k, hk, rfl, hB, hR, hW, hb⟩ := hrel
    by_cases hlt : k < 16
    · have hl := padw_length (sch1 m k) 80 (by rw [sch1_length]; omega)
      have cS := hW.out.word k (by rw [hl]; omega)
      have fS := hW.out.fr k
      have HN : Hid (nxt1 m (sch1 m k) k = wd m k) := by show _ = _; simp [nxt1, hlt]
      have HX := hide (sch1_next m k (by omega))
      clear hl
      go_wp2_with (go_at_call 76; refine (word_any w.heap.size _ m k _ hB.out HM.out hlt).mono ?_; rintro e w' ⟨rfl, nq, rfl⟩)
      go_roundw
      case rel =>
        refine ⟨k + 1, by omega, by go_num, (hB.out.drewN nq).other _ _ (by omega), (hR.out.drewN nq).other _ _ (by omega), ?_, (bdrewN hb.out nq).setCell (by show _ ≤ _ + 1 + 1; omega) _⟩
        rw [← unhide HX, unhide HN]
        exact (hW.out.drewN nq).setW k _
      case measure => simp [intOf]; omega
    · obtain rfl : k = 16 := by omega
      rw [show ((16 : Nat) : Int) = 16 from rfl]
      go_wp2
      go_loopw [5] (fun v wr2 => ∃ K : Nat, 16 ≤ K ∧ K ≤ 80 ∧ v = .int .i64 (K : Int) ∧ Hid (Cel wr2 (w.heap.size + 1) 110 (us (List.replicate 80 0))) ∧ Hid (Cel wr2 (w.heap.size + 1 + 1) 110 (us (padw (sch1 m K) 80))) ∧ Hid (Below w.heap.size w wr2)) (fun v _ => 80 - (intOf v).toNat)
      case atStart => exact ⟨16, by omega, by omega, rfl, hR, hW, hb⟩
      case round =>
        clear hB hR hW hb
        obtain ⟨K, hK1, hK2, rfl, hR, hW, hb⟩ := hrel
        by_cases hlt : K < 80
        · have HX := hide (sch1_next m K (by omega))
          have hl := padw_length (sch1 m K) 80 (by rw [sch1_length]; omega)
          obtain ⟨P3, hP3⟩ : ∃ P, P + 3 = K := ⟨K - 3, by omega⟩
          obtain ⟨P8, hP8⟩ : ∃ P, P + 8 = K := ⟨K - 8, by omega⟩
          obtain ⟨P14, hP14⟩ : ∃ P, P + 14 = K := ⟨K - 14, by omega⟩
          obtain ⟨P16, hP16⟩ : ∃ P, P + 16 = K := ⟨K - 16, by omega⟩
          have cS := hW.out.word K (by rw [hl]; omega)
          have fS := hW.out.fr K
          have c3 := hW.out.word P3 (by rw [hl]; omega)
          have c8 := hW.out.word P8 (by rw [hl]; omega)
          have c14 := hW.out.word P14 (by rw [hl]; omega)
          have c16 := hW.out.word P16 (by rw [hl]; omega)
          rw [padw_get _ _ _ (by rw [sch1_length]; omega)] at c3 c8 c14 c16
          have HN : Hid (nxt1 m (sch1 m K) K = rotl ((sch1 m K).getD P3 0 ^^^ (sch1 m K).getD P8 0 ^^^ (sch1 m K).getD P14 0 ^^^ (sch1 m K).getD P16 0) 1) := by
            show _ = _
            unfold nxt1
            rw [if_neg (by omega)]
            have e3 : K - 3 = P3 := by omega
            have e8 : K - 8 = P8 := by omega
            have e14 : K - 14 = P14 := by omega
            have e16 : K - 16 = P16 := by omega
            rw [e3, e8, e14, e16]
          generalize (sch1 m K).getD P3 0 = x3 at *
          generalize (sch1 m K).getD P8 0 = x8 at *
          generalize (sch1 m K).getD P14 0 = x14 at *
          generalize (sch1 m K).getD P16 0 = x16 at *
          clear hl
          have q3 : IntKind.i64.wrap ((K : Int) - 3) = (P3 : Int) := by rw [IntKind.wrap_i64]; omega
          have q8 : IntKind.i64.wrap ((K : Int) - 8) = (P8 : Int) := by rw [IntKind.wrap_i64]; omega
          have q14 : IntKind.i64.wrap ((K : Int) - 14) = (P14 : Int) := by rw [IntKind.wrap_i64]; omega
          have q16 : IntKind.i64.wrap ((K : Int) - 16) = (P16 : Int) := by rw [IntKind.wrap_i64]; omega
          have b3 : (0 : Int) ≤ (P3 : Int) ∧ (P3 : Int) < 80 := by omega
          have b8 : (0 : Int) ≤ (P8 : Int) ∧ (P8 : Int) < 80 := by omega
          have b14 : (0 : Int) ≤ (P14 : Int) ∧ (P14 : Int) < 80 := by omega
          have b16 : (0 : Int) ≤ (P16 : Int) ∧ (P16 : Int) < 80 := by omega
          have bK : (0 : Int) ≤ (K : Int) ∧ (K : Int) < 80 := by omega
          have n3 : P3 ≠ K := by omega
          have n8 : P8 ≠ K := by omega
          have n14 : P14 ≠ K := by omega
          have n16 : P16 ≠ K := by omega
          clear hP3 hP8 hP14 hP16
          have HV : Hid (bits .xor .u32 (bits .xor .u32 (bits .xor .u32 (x3.toNat : Int) (x8.toNat : Int)) (x14.toNat : Int)) (x16.toNat : Int) = ((x3 ^^^ x8 ^^^ x14 ^^^ x16).toNat : Int)) := by
            show _ = _
            rw [u_xor, u_xor, u_xor]
          go_wp2
          go_region_held3 (fun w' => w'.cell? ⟨w.heap.size + 1 + 1, P3, none⟩ = some (.int .u32 (x3.toNat : Int)) ∧ w'.cell? ⟨w.heap.size + 1 + 1, P8, none⟩ = some (.int .u32 (x8.toNat : Int)) ∧ w'.cell? ⟨w.heap.size + 1 + 1, P14, none⟩ = some (.int .u32 (x14.toNat : Int)) ∧ w'.cell? ⟨w.heap.size + 1 + 1, P16, none⟩ = some (.int .u32 (x16.toNat : Int))) (first | exact ⟨cel_keep c3 n3, cel_keep c8 n8, cel_keep c14 n14, cel_keep c16 n16⟩ | go_keep) ((go_at_call 60; rw [HV.out]; refine (rotl_any (x3 ^^^ x8 ^^^ x14 ^^^ x16) 1 1 _ rfl (by omega) (by omega)).mono ?_; rintro e w' ⟨rfl, rfl⟩))
          all_goals
            go_wp2
            go_roundw
            case rel =>
              refine ⟨K + 1, by omega, by omega, by go_num, ?_, ?_, ?_⟩
              · exact hR.out.other _ _ (by omega)
              · rw [← unhide HX, unhide HN]
                exact hW.out.setW K _
              · exact (hb.out.setCell (p := ⟨w.heap.size + 1 + 1, K, none⟩) (by show _ ≤ _ + 1 + 1; omega) _).drew
            case measure => simp [intOf]; omega
        · obtain rfl : K = 80 := by omega
          rw [padw_full _ _ (sch1_length m 80)] at hW
          go_wp2_with (first | refine wpL_load rfl 110 _ rfl _ rfl 110 _ _ _ hW.out Tryd.underlying110 (by rw [i80, us_length, sch1_length]) ?_ | (refine wpL_store rfl 110 _ _ rfl _ rfl _ rfl 110 _ hR.out (by rw [us_length, us_length, sch1_length]; rfl) (by rw [i80, us_length, sch1_length]) (us_one _) ?_; intro w9 c9 g9))
          exact bodyPost_ret (results_cel rfl _ _ _ _ _ _ _ rfl c9 Tryd.underlying110 (by rw [i80, us_length, sch1_length])) rfl ⟨rfl, hb.out.grown g9 hb.out.size (fun k hk => by cases hk; omega)⟩
#print axioms sched1_any
end Go.Proofs.YtegbcjfceooflaaDoor
end
