/-
  WsockReads: THE WALK.
-/
import Derived.Test.YtiiafkjdeoabaaaDoorWsrB
import Derived.Test.YtiiafkjdeoabaaaDoorWskO
import Derived.Test.YtiiafkjdeoabaaaDoorWskS
set_option linter.unusedVariables false
set_option maxRecDepth 1000000
namespace Go.Proofs.YtiiafkjdeoabaaaDoor
open Go.RowKit

def rF (B : List UInt8) (mask : Bool) : Bool := if rdY B mask = 0 then kFin B else false
def rO (B : List UInt8) (mask : Bool) : Nat := if rdY B mask = 0 then kOp B else 0
def rN (B : List UInt8) (mask : Bool) : Nat := if rdY B mask = 0 then rdEnd B mask else 0
def rL (B : List UInt8) (mask : Bool) : List UInt8 := if rdY B mask = 0 then rdL B mask else []

theorem one_shape {f : Nat} {a : Option Addr} {cap : Nat} {B : List UInt8} {mask : Bool} {w : World}
    (h : Calls Tryd.prog f #[.slice a B.length cap, .bool mask] w fun e w' => Hid (Below w.heap.size w w') ∧
      ((Hid (rdY B mask ≠ 0) ∧ e = .returned (.tuple #[.agg #[.bool false, .int .i64 0, .slice none 0 0], .int .i64 0, .int .i64 (rdY B mask : Nat)])) ∨
       (Hid (rdY B mask = 0) ∧ ∃ a' c' r, e = .returned (.tuple #[.agg #[.bool (kFin B), .int .i64 (kOp B : Nat), .slice a' r.length c'], .int .i64 (rdEnd B mask : Nat), .int .i64 0]) ∧ Hid (r = rdL B mask) ∧ Hid (OwnB w' w.heap.size a' c' r)))) :
    Calls Tryd.prog f #[.slice a B.length cap, .bool mask] w fun e w' => ∃ a' c' r, e = .returned (.tuple #[.agg #[.bool (rF B mask), .int .i64 (rO B mask : Nat), .slice a' r.length c'], .int .i64 (rN B mask : Nat), .int .i64 (rdY B mask : Nat)]) ∧ Hid (r = rL B mask) ∧ Hid (OwnB w' w.heap.size a' c' r) ∧ Hid (Below w.heap.size w w') := by
  refine h.mono ?_
  rintro e w' ⟨hb, ⟨hy, rfl⟩ | ⟨hy, a', c', r, rfl, hr, ho⟩⟩
  · have hy' := unhide hy
    refine ⟨none, 0, [], ?_, ?_, OwnB.nil _ _, hb⟩
    · unfold rF rO rN; rw [if_neg hy', if_neg hy', if_neg hy']; rfl
    · show _ = _; unfold rL; rw [if_neg hy']
  · have hy' := unhide hy
    refine ⟨a', c', r, ?_, ?_, ho, hb⟩
    · unfold rF rO rN; rw [if_pos hy', if_pos hy', if_pos hy', hy']; rfl
    · show _ = _; unfold rL; rw [if_pos hy']; exact unhide hr

set_option maxHeartbeats 2000000 in
theorem wsockReads_walk (x : Option Addr) (c : Nat) (l : List UInt8) (mask : Bool) (w : World) (hL : Bs w x c l) (hT : Tb w) :
    Calls Tryd.prog 3 #[.slice x l.length c, .bool mask] w fun e w' => e = .returned (.bool true) ∧ Below w.heap.size w w' := by
  have hle := hL.le
  have hmost := hL.most
  unfold maxLen at hmost
  have HL := hide hL
  have HT := hide hT
  clear hL hT
  go_enter Tryd.func3, Tryd.ntmps3
  by_cases hbig : 262144 < l.length
  · have hb' : (262144 : Int) < (l.length : Int) := by omega
    clear hbig
    go_wp2_with (go_at_call 4; refine (awake9_any w (unhide HT)).mono ?_; rintro e w2 ⟨rfl, hb2⟩)
    go_ret
    exact ⟨rfl, unhide hb2⟩
  have hb' : ¬ (262144 : Int) < (l.length : Int) := by omega
  go_upto_region 4 with (go_at_call 5; refine (sclone_any x l.length c l w (unhide HL) rfl (by omega)).mono ?_; rintro e w1 ⟨y, cy, r, rfl, hr, ho1, hb1⟩; obtain rfl : r = l := unhide hr; have HO1 := hide ho1; have HB1 := hide hb1; clear ho1 hb1 hr)
  clear hbig
  have HP := hide (one_shape (rd_any y cy r mask w1 (unhide HO1).toBs))
  obtain ⟨Y, hY⟩ : ∃ Y, rdY r mask = Y := ⟨_, rfl⟩
  obtain ⟨F, hF⟩ : ∃ F, rF r mask = F := ⟨_, rfl⟩
  obtain ⟨O, hO⟩ : ∃ O, rO r mask = O := ⟨_, rfl⟩
  obtain ⟨N, hN⟩ : ∃ N, rN r mask = N := ⟨_, rfl⟩
  have HEQ := hide (And.intro hY (And.intro hF (And.intro hO hN)))
  rw [hY, hF, hO, hN] at HP
  clear hY hF hO hN
  go_upto_region 5 with (go_at_call 6; refine (unhide HP).mono ?_; rintro e w2 ⟨a2, c2, q2, rfl, HQ2, HO2, HB2⟩)
  clear HP
  obtain ⟨W2, hW2⟩ : ∃ W2, W2 = w2.alloc (.cells #[.bool F, .int .i64 (O : Int), .slice a2 q2.length c2] 26) := ⟨_, rfl⟩
  have hB22 : Below w2.heap.size w2 W2 := by rw [hW2]; exact (Below.refl _ _).alloc (Nat.le_refl _) _
  have hF2 : W2.heap[w2.heap.size]? = some (.cells #[.bool F, .int .i64 (O : Int), .slice a2 q2.length c2] 26 (0, 0)) := by rw [hW2]; exact heap_alloc_new w2 _
  rw [← hW2]
  have hl2 : w2.heap.size < W2.heap.size := (Array.getElem?_eq_some_iff.1 hF2).1
  have HBW2 := hide ((unhide HB2).trans (hB22.mono (unhide HB2).size))
  have HB12 := hide ((unhide HB1).trans ((unhide HBW2).mono (unhide HB1).size))
  have HLT2 : Hid (∀ k, blk a2 = some k → w1.heap.size ≤ k ∧ k < w2.heap.size) := (unhide HO2).lt
  have HOW2 := hide ((unhide HO2).below hB22 (Nat.le_refl _))
  have HF2 := hide hF2
  clear hW2 hF2 hB22
  have HP := hide (one_shape (rrd_any x c r mask W2 ((unhide HL).below (unhide HB12) (Nat.le_refl _))))
  rw [(unhide HEQ).1, (unhide HEQ).2.1, (unhide HEQ).2.2.1, (unhide HEQ).2.2.2] at HP
  go_upto_region 6 with (go_at_call 7; refine (unhide HP).mono ?_; rintro e w3 ⟨a3, c3, q3, rfl, HQ3, HO3, HB3⟩)
  clear HP
  obtain rfl : q3 = q2 := by rw [unhide HQ3, unhide HQ2]
  obtain ⟨W3, hW3⟩ : ∃ W3, W3 = w3.alloc (.cells #[.bool F, .int .i64 (O : Int), .slice a3 q3.length c3] 26) := ⟨_, rfl⟩
  have hB33 : Below w3.heap.size w3 W3 := by rw [hW3]; exact (Below.refl _ _).alloc (Nat.le_refl _) _
  have hF3 : W3.heap[w3.heap.size]? = some (.cells #[.bool F, .int .i64 (O : Int), .slice a3 q3.length c3] 26 (0, 0)) := by rw [hW3]; exact heap_alloc_new w3 _
  rw [← hW3]
  have HBW3 := hide ((unhide HB3).trans (hB33.mono (unhide HB3).size))
  have HF23 := hide (((unhide HBW3).block _ hl2).trans (unhide HF2))
  have HO23 := hide ((unhide HOW2).below (unhide HBW3) (Nat.le_refl _))
  have HO33 := hide ((unhide HO3).below hB33 (Nat.le_refl _))
  have HB13 := hide ((unhide HBW2).trans ((unhide HBW3).mono (unhide HBW2).size))
  have HB03 := hide ((unhide HB1).trans ((unhide HB13).mono (unhide HB1).size))
  have HT3 := hide ((unhide HT).below (unhide HB03) (unhide HT).big)
  have r0 : W3.cell? ⟨w2.heap.size, 0, none⟩ = some (.bool F) := by rw [cell_of_row W3 w2.heap.size 0 _ _ _ (unhide HF23)]; rfl
  have r1 : W3.cell? ⟨w2.heap.size, 1, none⟩ = some (.int .i64 (O : Int)) := by rw [cell_of_row W3 w2.heap.size 1 _ _ _ (unhide HF23)]; rfl
  have r2 : W3.cell? ⟨w2.heap.size, 2, none⟩ = some (.slice a2 q3.length c2) := by rw [cell_of_row W3 w2.heap.size 2 _ _ _ (unhide HF23)]; rfl
  have s0 : W3.cell? ⟨w3.heap.size, 0, none⟩ = some (.bool F) := by rw [cell_of_row W3 w3.heap.size 0 _ _ _ hF3]; rfl
  have s1 : W3.cell? ⟨w3.heap.size, 1, none⟩ = some (.int .i64 (O : Int)) := by rw [cell_of_row W3 w3.heap.size 1 _ _ _ hF3]; rfl
  have s2 : W3.cell? ⟨w3.heap.size, 2, none⟩ = some (.slice a3 q3.length c3) := by rw [cell_of_row W3 w3.heap.size 2 _ _ _ hF3]; rfl
  have hNN : ((N : Int) == (N : Int)) = true := beq_self_eq_true _
  have hYY : ((Y : Int) == (Y : Int)) = true := beq_self_eq_true _
  clear hW3 hB33 hF3
  go_upto_region 7 with (go_at_call 8; refine (same_eq F (O : Int) a2 c2 a3 c3 q3 W3 (unhide HO23).toBs (unhide HO33).toBs).mono ?_; rintro e w4 ⟨rfl, HB4⟩)
  have HF24 := hide (((unhide HB4).block _ (Array.getElem?_eq_some_iff.1 (unhide HF23)).1).trans (unhide HF23))
  have HO24 := hide ((unhide HO23).below (unhide HB4) (Nat.le_refl _))
  have HB14 := hide ((unhide HB13).trans ((unhide HB4).mono (unhide HB13).size))
  have q2 : w4.cell? ⟨w2.heap.size, 2, none⟩ = some (.slice a2 q3.length c2) := by rw [cell_of_row w4 w2.heap.size 2 _ _ _ (unhide HF24)]; rfl
  clear r0 r1 r2 s0 s1 s2 HF23 HO23 HB13 HF2 HOW2 HBW2 HBW3 HO33 HB03 hl2
  have hq16 : q3.length ≤ 9223372036854775807 := by
    have h := (unhide HO24).toBs.le
    have h2 := (unhide HO24).toBs.most
    unfold maxLen at h2
    omega
  go_wp2
  go_loopw [50] (fun v wr => ∃ (k : Nat) (q : List UInt8), k ≤ q3.length ∧ v = .int .i64 (k : Int) ∧ Hid (q.length = q3.length) ∧ Hid (OwnB wr w1.heap.size a2 c2 q) ∧ Hid (wr.heap[w2.heap.size]? = some (.cells #[.bool F, .int .i64 (O : Int), .slice a2 q3.length c2] 26 (0, 0))) ∧ Hid (Below w1.heap.size w1 wr)) (fun v _ => q3.length - (intOf v).toNat)
  case atStart => exact ⟨0, q3, Nat.zero_le _, rfl, rfl, HO24, HF24, HB14⟩
  case round =>
    obtain ⟨k, q, hk, rfl, hql, ho, hf, hb⟩ := hrel
    clear q2
    have q2 : wr.cell? ⟨w2.heap.size, 2, none⟩ = some (.slice a2 q3.length c2) := by rw [cell_of_row wr w2.heap.size 2 _ _ _ (unhide hf)]; rfl
    by_cases hlt : k < q3.length
    · obtain ⟨gy, rfl, hgy1, hgy2, hcy, hfy⟩ := ho.out.some (by rw [unhide hql]; omega)
      have c0 := hcy k (by rw [unhide hql]; exact hlt)
      have f0 := hfy k
      have hgl := (unhide HLT2 gy rfl).2
      have hk2 : (k : Int) < (q3.length : Int) := by omega
      have HST := hide (own_storedw ho.out k (q.getD k 0 ^^^ 255))
      have HBB : Hid (Below w1.heap.size w1 (wr.setCell ⟨gy, k, none⟩ (.int .u8 ((q.getD k 0 ^^^ 255).toNat : Int)))) := hb.out.grown (grownBy_setCell wr _ _) hb.out.size (fun j hj => by rw [← Option.some.inj hj]; exact hgy1)
      have HFF : Hid ((wr.setCell ⟨gy, k, none⟩ (.int .u8 ((q.getD k 0 ^^^ 255).toNat : Int))).heap[w2.heap.size]? = some (.cells #[.bool F, .int .i64 (O : Int), .slice (some ⟨gy, 0, none⟩) q3.length c2] 26 (0, 0))) := by
        show _ = _
        rw [heap_setCell_other wr ⟨gy, k, none⟩ w2.heap.size _ (by show w2.heap.size ≠ gy; omega)]
        exact unhide hf
      have hx : bits .xor .u8 ((q.getD k 0).toNat : Int) 255 = ((q.getD k 0 ^^^ 255).toNat : Int) := u8xw (q.getD k 0) 255
      have HQL : Hid ((q.set k (q.getD k 0 ^^^ 255)).length = q3.length) := by show _ = _; rw [List.length_set]; exact unhide hql
      generalize q.set k (q.getD k 0 ^^^ 255) = qq at *
      generalize q.getD k 0 = v1 at *
      generalize v1 ^^^ 255 = v3 at *
      clear hcy hfy ho hb hf hql
      go_wp2
      go_roundw
      case rel => exact ⟨k + 1, qq, by omega, by go_num, HQL, HST, HFF, HBB⟩
      case measure => simp [intOf]; omega
    · have hk2 : ¬ (k : Int) < (q3.length : Int) := by omega
      clear hlt
      have HY1 := hide ((unhide HO1).toBs.below (unhide hb) (Nat.le_refl _))
      have HX0 := hide ((unhide HB1).trans ((unhide hb).mono (unhide HB1).size))
      have HX1 := hide ((unhide HL).below (unhide HX0) (Nat.le_refl _))
      have HTT := hide ((unhide HT).below (unhide HX0) (unhide HT).big)
      have hrr : (r == r) = true := beq_self_eq_true _
      clear ho hf hb
      go_wp2_with (first
        | (go_at_call 9; refine (equal_any y r.length cy r x r.length c r wr (unhide HY1).row (unhide HX1).row rfl rfl).mono ?_; rintro e w8 ⟨rfl, hw8⟩; have hw8 := hw8.symm; subst hw8)
        | (go_at_call 4; refine (awake9_any wr (unhide HTT)).mono ?_; rintro e w9 ⟨rfl, hb9⟩))
      go_ret
      exact ⟨rfl, (unhide HX0).trans ((unhide hb9).mono (unhide HX0).size)⟩
#print axioms wsockReads_walk
end Go.Proofs.YtiiafkjdeoabaaaDoor
