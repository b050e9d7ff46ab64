/-
  THE WALK of digest's Base64.
-/
import Derived.Test.YtiiafkjdeoabaaaDoorB64C
set_option linter.unusedVariables false
namespace Go.Proofs.YtiiafkjdeoabaaaDoor
open Go.RowKit

theorem four_lit (x y z d0 d1 d2 d3 : UInt8) (h : fl x y z = [d0, d1, d2, d3]) (w : World) :
    Calls Tryd.prog 28 #[.int .u8 (x.toNat : Int), .int .u8 (y.toNat : Int), .int .u8 (z.toNat : Int)] w
      fun e w' => e = .returned (.agg #[.int .u8 (d0.toNat : Int), .int .u8 (d1.toNat : Int), .int .u8 (d2.toNat : Int), .int .u8 (d3.toNat : Int)]) ∧ Below w.heap.size w w' := by
  have := four_any x y z w
  rw [h] at this
  exact this
theorem keep3 {w w' : World} (hb : Below w.heap.size w w') {p0 p1 p2 : Addr} {v0 v1 v2 : Value} (h : w.cell? p0 = some v0 ∧ w.cell? p1 = some v1 ∧ w.cell? p2 = some v2) : w'.cell? p0 = some v0 ∧ w'.cell? p1 = some v1 ∧ w'.cell? p2 = some v2 :=
  ⟨by rw [hb.cell (World.block_lt_of_cell? _ _ h.1)]; exact h.1, by rw [hb.cell (World.block_lt_of_cell? _ _ h.2.1)]; exact h.2.1, by rw [hb.cell (World.block_lt_of_cell? _ _ h.2.2)]; exact h.2.2⟩

theorem keep2 {w w' : World} (hb : Below w.heap.size w w') {p0 p1 : Addr} {v0 v1 : Value} (h : w.cell? p0 = some v0 ∧ w.cell? p1 = some v1) : w'.cell? p0 = some v0 ∧ w'.cell? p1 = some v1 :=
  ⟨by rw [hb.cell (World.block_lt_of_cell? _ _ h.1)]; exact h.1, by rw [hb.cell (World.block_lt_of_cell? _ _ h.2)]; exact h.2⟩
theorem Bld.below {w w' : World} {base b : Nat} {p : Value} {l : List UInt8} (h : Bld w base b p l) (hb : Below w.heap.size w w') : Bld w' base b p l := by
  obtain ⟨h1, a, cap, hC, hO, hn, hz⟩ := h
  exact ⟨h1, a, cap, hC.below hb hC.lt, hO.below hb (Nat.le_refl _), hn, hz⟩
theorem undrew {w w' : World} (h : Below w.drew.heap.size w.drew w') : Below w.heap.size w w' := ⟨h.os, h.tape, h.output, h.size, h.block⟩
theorem Bld.lt {w : World} {base b : Nat} {p : Value} {l : List UInt8} (h : Bld w base b p l) : b < w.heap.size := by
  obtain ⟨_, _, _, hC, _⟩ := h
  exact hC.lt

set_option maxRecDepth 1000000 in
set_option maxHeartbeats 4000000 in
theorem base64_any (a : Option Addr) (cap : Nat) (l : List UInt8) (w : World) (hB : Bs w a cap l) (hl : l.length ≤ 1000000) :
    Calls Tryd.prog 18 #[.slice a l.length cap] w fun e w' => e = .returned (.string (str (b64 l))) ∧ Below w.heap.size w w' := by
  have HB : Hid (∀ wx, Below w.heap.size w wx → Bs wx a cap l) := fun wx h => hB.below h (Nat.le_refl _)
  have HLT : Hid (l ≠ [] → ∀ k, blk a = some k → k < w.heap.size) := fun h => hB.row.lt h
  clear hB
  go_enter Tryd.func18, Tryd.ntmps18
  go_wp2
  go_loopw [0] (fun v wr => ∃ (ax : Option Addr) (cx : Nat) (r acc : List UInt8) (p : Value), v = .slice ax r.length cx ∧ r.length ≤ l.length ∧ Hid (∀ wx, Below w.heap.size w wx → Bs wx ax cx r) ∧ Hid (blk ax = blk a) ∧ Hid (acc ++ b64 r = b64 l) ∧ Hid (Bld wr w.heap.size w.heap.size p acc) ∧ Hid (p = .pointer none ∨ p = selfP w.heap.size) ∧ Hid (Below w.heap.size w wr)) (fun v _ => slen v)
  case atStart => exact ⟨a, cap, l, [], .pointer none, rfl, Nat.le_refl _, HB, rfl, rfl, ⟨Nat.le_refl _, none, 0, Cel.newAt' w _ _ _ _ rfl rfl, OwnB.nil _ _, (by intro h; cases h), fun _ => ⟨rfl, rfl⟩⟩, .inl rfl, (Below.refl _ _).alloc (Nat.le_refl _) _⟩
  case round =>
    obtain ⟨ax, cx, r, acc, p, rfl, hrl, hB, hbk, hac, hD, hp, hb⟩ := hrel
    have hal : acc.length + (b64 r).length = (b64 l).length := by rw [← hac.out, List.length_append]
    rw [b64_length, b64_length] at hal
    by_cases h3 : 2 < r.length
    · obtain ⟨x, y, z, r3, hr⟩ : ∃ x y z r3, r = x :: y :: z :: r3 := by
        match r, h3 with
        | x :: y :: z :: r3, _ => exact ⟨x, y, z, r3, rfl⟩
      obtain ⟨d0, d1, d2, d3, hd⟩ : ∃ d0 d1 d2 d3, fl x y z = [d0, d1, d2, d3] := ⟨_, _, _, _, rfl⟩
      have hBr := hB.out wr hb.out
      obtain ⟨b, off, rfl, hcell⟩ := hBr.row (by intro e; rw [e] at h3; simp at h3)
      have c0 := hcell 0 (by omega)
      have c1 := hcell 1 (by omega)
      have c2 := hcell 2 (by omega)
      rw [hr] at c0 c1 c2
      simp only [List.getD_cons_zero, List.getD_cons_succ, Nat.add_zero] at c0 c1 c2
      have hrow : r ≠ [] → ∃ b' off', some (⟨b, off, none⟩ : Addr) = some ⟨b', off', none⟩ := fun _ => ⟨b, off, rfl⟩
      obtain ⟨xt, ht, htB, htb⟩ := cut_tail (some ⟨b, off, none⟩) cx 3 r hBr.le (by omega) hrow
      have ht' : ∀ w, (Instr.slice 22 (.slice (some ⟨b, off, none⟩) r.length cx) (some (.int .i64 3)) none none).run Tryd.prog w = .ok (.slice xt (r.length - 3) (cx - 3)) w := ht
      have hbl : b < w.heap.size := HLT.out (by intro e; rw [e, List.length_nil] at hrl; omega) b (by rw [← hbk.out]; rfl)
      have hsz := hb.out.size
      have i0 : (0 : Int) < (r.length : Int) := by omega
      have i00 : 0 < r.length := by omega
      have i0' : r ≠ [] := by intro e; rw [e] at h3; simp at h3
      have i1 : (1 : Int) < (r.length : Int) := by omega
      have i2 : (2 : Int) < (r.length : Int) := by omega
      have n0 : wr.heap.size ≠ b := by omega
      have HFD := hide hd
      have HXT : Hid (∀ wx, Below w.heap.size w wx → Bs wx xt (cx - 3) (r.drop 3)) := fun wx h => htB wx (hB.out wx h)
      have HTB := hide (htb.trans hbk.out)
      have HAC : Hid ((acc ++ [d0, d1, d2, d3]) ++ b64 (r.drop 3) = b64 l) := by
        show _ = _
        rw [← hac.out, hr, List.append_assoc]
        congr 1
        show [d0, d1, d2, d3] ++ b64 r3 = fl x y z ++ b64 r3
        rw [hd]
      have HAL : Hid (acc.length + 4 ≤ 100000000) := (by omega : acc.length + 4 ≤ 100000000)
      have HBN := hide hbl
      have hcx : 3 ≤ cx := by have := hBr.le; omega
      have HM := hide hBr.most
      clear hr hBr hcell hrow ht htB htb hac hB hbk hal hd
      go_wp2
      go_region_held3 (fun w' => w'.cell? ⟨b, off, none⟩ = some (.int .u8 (x.toNat : Int)) ∧ w'.cell? ⟨b, off + 1, none⟩ = some (.int .u8 (y.toNat : Int)) ∧ w'.cell? ⟨b, off + 2, none⟩ = some (.int .u8 (z.toNat : Int))) (first | exact keep3 hb4 ‹_› | go_keep) ((go_at_call 28; refine (four_lit x y z d0 d1 d2 d3 HFD.out _).mono ?_; rintro e w4 ⟨rfl, hb4⟩; have k4 := keep3 hb4 ‹_ ∧ _ ∧ _›; have n4 : w4.heap.size ≠ b := (by have := hb4.size; simp at this; omega); have hc4 := fun (b o : Nat) (h : b < _) => hb4.cell (p := ⟨b, o, none⟩) h; have hf4 := fun (b o : Nat) (h : b < _) => hb4.frozen (p := ⟨b, o, none⟩) h))
      · have hbel : Hid (Below wr.heap.size wr (w4.alloc (.cells #[.int .u8 (d0.toNat : Int), .int .u8 (d1.toNat : Int), .int .u8 (d2.toNat : Int), .int .u8 (d3.toNat : Int)] 68))) := (undrew hb4).alloc hb4.size _
        have hlt := hD.out.lt
        have h4s : wr.heap.size ≤ w4.heap.size := hb4.size
        go_wp2_with fail
        refine (bw_any w.heap.size w.heap.size p acc _ (hD.out.below hbel.out) hp.out _ 4 [d0, d1, d2, d3] (Cel.new' w4 _ (bs [d0, d1, d2, d3]) _ rfl).row (by intro h; cases h) (by simp) (by intro h; have : w4.heap.size = w.heap.size := Option.some.inj h; omega) HAL.out (Nat.le_trans hb.out.size hbel.out.size)).mono ?_
        rintro e w6 ⟨rfl, hB6, hb6⟩
        have HB6 := hide ((hb.out.trans (hbel.out.mono hb.out.size)).trans hb6.out)
        clear hb6 hb4 k4 n4 hc4 hf4
        go_wp2
        go_roundw
        case rel => exact ⟨xt, cx - 3, r.drop 3, acc ++ [d0, d1, d2, d3], selfP w.heap.size, by rw [List.length_drop], by rw [List.length_drop]; omega, HXT, HTB, HAC, hB6, .inr rfl, HB6⟩
        case measure => simp [slen]; omega
      · have hb40 : Below wr.heap.size wr w4 := ((Below.refl wr.heap.size wr).alloc (Nat.le_refl _) _).trans ((undrew hb4).mono (by simp))
        have hbel : Hid (Below wr.heap.size wr ((((w4.setCell ⟨wr.heap.size, 0, none⟩ (.int .u8 (d0.toNat : Int))).setCell ⟨wr.heap.size, 1, none⟩ (.int .u8 (d1.toNat : Int))).setCell ⟨wr.heap.size, 2, none⟩ (.int .u8 (d2.toNat : Int))).setCell ⟨wr.heap.size, 3, none⟩ (.int .u8 (d3.toNat : Int)))) := (((hb40.setCell (Nat.le_refl _) _).setCell (Nat.le_refl _) _).setCell (Nat.le_refl _) _).setCell (Nat.le_refl _) _
        have hC4 : Cel w4 wr.heap.size 68 (bs [0, 0, 0, 0]) := (Cel.new' wr _ (bs [0, 0, 0, 0]) _ rfl).below (undrew hb4) (by simp)
        have hCd := (((hC4.setB 0 d0).setB 1 d1).setB 2 d2).setB 3 d3
        have HCd := hide hCd
        have hlt := hD.out.lt
        clear hC4 hCd
        go_wp2_with fail
        refine (bw_any w.heap.size w.heap.size p acc _ (hD.out.below hbel.out) hp.out _ 4 [d0, d1, d2, d3] HCd.out.row (by intro h; cases h) (by simp) (by intro h; have : wr.heap.size = w.heap.size := Option.some.inj h; omega) HAL.out (Nat.le_trans hb.out.size hbel.out.size)).mono ?_
        rintro e w6 ⟨rfl, hB6, hb6⟩
        have HB6 := hide ((hb.out.trans (hbel.out.mono hb.out.size)).trans hb6.out)
        clear hb6 hb4 hb40 k4 n4 hc4 hf4
        go_wp2
        go_roundw
        case rel => exact ⟨xt, cx - 3, r.drop 3, acc ++ [d0, d1, d2, d3], selfP w.heap.size, by rw [List.length_drop], by rw [List.length_drop]; omega, HXT, HTB, HAC, hB6, .inr rfl, HB6⟩
        case measure => simp [slen]; omega
    · by_cases h2 : r.length = 2
      · obtain ⟨x, y, hr⟩ : ∃ x y, r = [x, y] := by
          match r, h2 with
          | [x, y], _ => exact ⟨x, y, rfl⟩
        obtain ⟨d0, d1, d2, d3, hd⟩ : ∃ d0 d1 d2 d3, fl x y 0 = [d0, d1, d2, d3] := ⟨_, _, _, _, rfl⟩
        have hBr := hB.out wr hb.out
        obtain ⟨b, off, rfl, hcell⟩ := hBr.row (by rw [hr]; simp)
        have c0 := hcell 0 (by omega)
        have c1 := hcell 1 (by omega)
        rw [hr] at c0 c1
        simp only [List.getD_cons_zero, List.getD_cons_succ, Nat.add_zero] at c0 c1
        have hbl : b < w.heap.size := HLT.out (by intro e; rw [e, List.length_nil] at hrl; omega) b (by rw [← hbk.out]; rfl)
        have hsz := hb.out.size
        have n0 : wr.heap.size ≠ b := by omega
        have HFD := hide hd
        have HAC : Hid ((acc ++ [d0, d1, d2]) ++ [61] = b64 l) := by
          show _ = _
          rw [← hac.out, hr, List.append_assoc]
          congr 1
          have e0 : d0 = l6 (x.toNat / 4) := (congrArg (·.getD 0 0) hd).symm
          have e1 : d1 = l6 (x.toNat % 4 * 16 + y.toNat / 16) := (congrArg (·.getD 1 0) hd).symm
          have e2 : d2 = l6 (y.toNat % 16 * 4 + (0 : UInt8).toNat / 64) := (congrArg (·.getD 2 0) hd).symm
          rw [e0, e1, e2]
          rfl
        have HAL : Hid (acc.length + 4 ≤ 100000000) := (by omega : acc.length + 4 ≤ 100000000)
        have HAL2 : Hid ((acc ++ [d0, d1, d2]).length + (⟨#[61]⟩ : ByteArray).size ≤ 100000000) := (by simp [ByteArray.size]; omega : (acc ++ [d0, d1, d2]).length + (⟨#[61]⟩ : ByteArray).size ≤ 100000000)
        have HAL3 : Hid ((acc ++ [d0, d1, d2] ++ (⟨#[61]⟩ : ByteArray).data.toList).length ≤ 100000000) := (by simp; omega : (acc ++ [d0, d1, d2] ++ (⟨#[61]⟩ : ByteArray).data.toList).length ≤ 100000000)
        have h4 := four_lit x y 0 d0 d1 d2 d3 hd
        have h4' : ∀ w : World, Calls Tryd.prog 28 #[.int .u8 (x.toNat : Int), .int .u8 (y.toNat : Int), .int .u8 0] w
            fun e w' => e = .returned (.agg #[.int .u8 (d0.toNat : Int), .int .u8 (d1.toNat : Int), .int .u8 (d2.toNat : Int), .int .u8 (d3.toNat : Int)]) ∧ Below w.heap.size w w' := h4
        have H4 := hide h4'
        clear hr hBr hcell hac hB hbk hal hd h4 h4' h3
        rw [h2]
        go_wp2
        go_region_held3 (fun w' => w'.cell? ⟨b, off, none⟩ = some (.int .u8 (x.toNat : Int)) ∧ w'.cell? ⟨b, off + 1, none⟩ = some (.int .u8 (y.toNat : Int))) (first | exact keep2 hb4 ‹_› | go_keep) ((go_at_call 28; refine (H4.out _).mono ?_; rintro e w4 ⟨rfl, hb4⟩; have k4 := keep2 hb4 ‹_ ∧ _›; have n4 : w4.heap.size ≠ b := (by have := hb4.size; simp at this; omega); have hc4 := fun (b o : Nat) (h : b < _) => hb4.cell (p := ⟨b, o, none⟩) h; have hf4 := fun (b o : Nat) (h : b < _) => hb4.frozen (p := ⟨b, o, none⟩) h))
        · have hbel : Hid (Below wr.heap.size wr (w4.alloc (.cells #[.int .u8 (d0.toNat : Int), .int .u8 (d1.toNat : Int), .int .u8 (d2.toNat : Int), .int .u8 (d3.toNat : Int)] 68))) := (undrew hb4).alloc hb4.size _
          have hlt := hD.out.lt
          have h4s : wr.heap.size ≤ w4.heap.size := hb4.size
          have HRW := hide ((Cel.new' w4 68 (bs [d0, d1, d2, d3]) #[.int .u8 (d0.toNat : Int), .int .u8 (d1.toNat : Int), .int .u8 (d2.toNat : Int), .int .u8 (d3.toNat : Int)] rfl).row.take 3)
          clear hb4 k4 n4 hc4 hf4
          go_wp2_with (first
          | (go_at_call 29; refine (bw_any w.heap.size w.heap.size p acc _ (hD.out.below hbel.out) hp.out _ 4 [d0, d1, d2] HRW.out (by intro h; cases h) (by simp) (by intro h; have : w4.heap.size = w.heap.size := Option.some.inj h; omega) (Nat.le_trans (by simp) HAL.out) (Nat.le_trans hb.out.size hbel.out.size)).mono ?_; rintro e w6 ⟨rfl, hB6, hb6⟩; have HB6 := hide ((hb.out.trans (hbel.out.mono hb.out.size)).trans hb6.out); clear hb6)
          | (go_at_call 30; refine (bws_any w.heap.size w.heap.size _ (acc ++ [d0, d1, d2]) _ hB6.out (.inr rfl) ⟨#[61]⟩ (by decide) HAL2.out HB6.out.size).mono ?_; rintro e w7 ⟨rfl, hB7, hb7⟩; have HB7 := hide (HB6.out.trans hb7.out); clear hb7)
          | (go_at_call 31; refine (bstr_any w.heap.size w.heap.size _ _ _ hB7.out HAL3.out).mono ?_; rintro e w8 ⟨rfl, hb8⟩))
          go_ret
          refine ⟨?_, HB7.out.trans hb8.out⟩
          rw [← HAC.out]
          simp [List.append_assoc]
        · have hb40 : Below wr.heap.size wr w4 := ((Below.refl wr.heap.size wr).alloc (Nat.le_refl _) _).trans ((undrew hb4).mono (by simp))
          have hbel : Hid (Below wr.heap.size wr ((((w4.setCell ⟨wr.heap.size, 0, none⟩ (.int .u8 (d0.toNat : Int))).setCell ⟨wr.heap.size, 1, none⟩ (.int .u8 (d1.toNat : Int))).setCell ⟨wr.heap.size, 2, none⟩ (.int .u8 (d2.toNat : Int))).setCell ⟨wr.heap.size, 3, none⟩ (.int .u8 (d3.toNat : Int)))) := (((hb40.setCell (Nat.le_refl _) _).setCell (Nat.le_refl _) _).setCell (Nat.le_refl _) _).setCell (Nat.le_refl _) _
          have hC4 : Cel w4 wr.heap.size 68 (bs [0, 0, 0, 0]) := (Cel.new' wr _ (bs [0, 0, 0, 0]) _ rfl).below (undrew hb4) (by simp)
          have HRW := hide (((((hC4.setB 0 d0).setB 1 d1).setB 2 d2).setB 3 d3).row.take 3)
          have hlt := hD.out.lt
          clear hC4 hb4 hb40 k4 n4 hc4 hf4
          go_wp2_with (first
          | (go_at_call 29; refine (bw_any w.heap.size w.heap.size p acc _ (hD.out.below hbel.out) hp.out _ 4 [d0, d1, d2] HRW.out (by intro h; cases h) (by simp) (by intro h; have : wr.heap.size = w.heap.size := Option.some.inj h; omega) (Nat.le_trans (by simp) HAL.out) (Nat.le_trans hb.out.size hbel.out.size)).mono ?_; rintro e w6 ⟨rfl, hB6, hb6⟩; have HB6 := hide ((hb.out.trans (hbel.out.mono hb.out.size)).trans hb6.out); clear hb6)
          | (go_at_call 30; refine (bws_any w.heap.size w.heap.size _ (acc ++ [d0, d1, d2]) _ hB6.out (.inr rfl) ⟨#[61]⟩ (by decide) HAL2.out HB6.out.size).mono ?_; rintro e w7 ⟨rfl, hB7, hb7⟩; have HB7 := hide (HB6.out.trans hb7.out); clear hb7)
          | (go_at_call 31; refine (bstr_any w.heap.size w.heap.size _ _ _ hB7.out HAL3.out).mono ?_; rintro e w8 ⟨rfl, hb8⟩))
          go_ret
          refine ⟨?_, HB7.out.trans hb8.out⟩
          rw [← HAC.out]
          simp [List.append_assoc]
      by_cases h1 : r.length = 1
      · obtain ⟨x, hr⟩ : ∃ x, r = [x] := by
          match r, h1 with
          | [x], _ => exact ⟨x, rfl⟩
        obtain ⟨d0, d1, d2, d3, hd⟩ : ∃ d0 d1 d2 d3, fl x 0 0 = [d0, d1, d2, d3] := ⟨_, _, _, _, rfl⟩
        have hBr := hB.out wr hb.out
        obtain ⟨b, off, rfl, hcell⟩ := hBr.row (by rw [hr]; simp)
        have c0 := hcell 0 (by omega)
        rw [hr] at c0
        simp only [List.getD_cons_zero, Nat.add_zero] at c0
        have hsz := hb.out.size
        have HAC : Hid ((acc ++ [d0, d1]) ++ [61, 61] = b64 l) := by
          show _ = _
          rw [← hac.out, hr, List.append_assoc]
          congr 1
          have e0 : d0 = l6 (x.toNat / 4) := (congrArg (·.getD 0 0) hd).symm
          have e1 : d1 = l6 (x.toNat % 4 * 16 + (0 : UInt8).toNat / 16) := (congrArg (·.getD 1 0) hd).symm
          rw [e0, e1]
          rfl
        have HAL : Hid (acc.length + 4 ≤ 100000000) := (by omega : acc.length + 4 ≤ 100000000)
        have HAL2 : Hid ((acc ++ [d0, d1]).length + (⟨#[61, 61]⟩ : ByteArray).size ≤ 100000000) := (by simp [ByteArray.size]; omega : (acc ++ [d0, d1]).length + (⟨#[61, 61]⟩ : ByteArray).size ≤ 100000000)
        have HAL3 : Hid ((acc ++ [d0, d1] ++ (⟨#[61, 61]⟩ : ByteArray).data.toList).length ≤ 100000000) := (by simp; omega : (acc ++ [d0, d1] ++ (⟨#[61, 61]⟩ : ByteArray).data.toList).length ≤ 100000000)
        have h4 := four_lit x 0 0 d0 d1 d2 d3 hd
        have h4' : ∀ w : World, Calls Tryd.prog 28 #[.int .u8 (x.toNat : Int), .int .u8 0, .int .u8 0] w
            fun e w' => e = .returned (.agg #[.int .u8 (d0.toNat : Int), .int .u8 (d1.toNat : Int), .int .u8 (d2.toNat : Int), .int .u8 (d3.toNat : Int)]) ∧ Below w.heap.size w w' := h4
        have H4 := hide h4'
        clear hr hBr hcell hac hB hbk hal hd h4 h4' h3 h2
        rw [h1]
        go_wp2_with (go_at_call 28; refine (H4.out _).mono ?_; rintro e w4 ⟨rfl, hb4⟩; have hlt := hD.out.lt; have h4s : wr.heap.size ≤ w4.heap.size := hb4.size; have HRW := hide ((Cel.new' w4 68 (bs [d0, d1, d2, d3]) #[.int .u8 (d0.toNat : Int), .int .u8 (d1.toNat : Int), .int .u8 (d2.toNat : Int), .int .u8 (d3.toNat : Int)] rfl).row.take 2); have hbel : Hid (Below wr.heap.size wr (w4.alloc (.cells #[.int .u8 (d0.toNat : Int), .int .u8 (d1.toNat : Int), .int .u8 (d2.toNat : Int), .int .u8 (d3.toNat : Int)] 68))) := hb4.alloc hb4.size _; clear hb4)
        go_wp2_with (first
          | (go_at_call 29; refine (bw_any w.heap.size w.heap.size p acc _ (hD.out.below hbel.out) hp.out _ 4 [d0, d1] HRW.out (by intro h; cases h) (by simp) (by intro h; have : w4.heap.size = w.heap.size := Option.some.inj h; omega) (Nat.le_trans (by simp) HAL.out) (Nat.le_trans hb.out.size hbel.out.size)).mono ?_; rintro e w6 ⟨rfl, hB6, hb6⟩; have HB6 := hide ((hb.out.trans (hbel.out.mono hb.out.size)).trans hb6.out); clear hb6)
          | (go_at_call 30; refine (bws_any w.heap.size w.heap.size _ (acc ++ [d0, d1]) _ hB6.out (.inr rfl) ⟨#[61, 61]⟩ (by decide) HAL2.out HB6.out.size).mono ?_; rintro e w7 ⟨rfl, hB7, hb7⟩; have HB7 := hide (HB6.out.trans hb7.out); clear hb7)
          | (go_at_call 31; refine (bstr_any w.heap.size w.heap.size _ _ _ hB7.out HAL3.out).mono ?_; rintro e w8 ⟨rfl, hb8⟩))
        go_ret
        refine ⟨?_, HB7.out.trans hb8.out⟩
        rw [← HAC.out]
        simp [List.append_assoc]
      · have h0 : r.length = 0 := by omega
        have hr : r = [] := List.eq_nil_of_length_eq_zero h0
        have HAC : Hid (acc = b64 l) := by show _ = _; rw [← hac.out, hr]; simp [b64]
        have HAL : Hid (acc.length ≤ 100000000) := (by omega : acc.length ≤ 100000000)
        clear hac hB hbk hal h1 h2 h3 hr
        rw [h0]
        go_wp2_with (go_at_call 31; refine (bstr_any w.heap.size w.heap.size _ _ _ hD.out HAL.out).mono ?_; rintro e w8 ⟨rfl, hb8⟩)
        go_ret
        exact ⟨by rw [HAC.out]; rfl, hb.out.trans hb8.out⟩
#print axioms base64_any
end Go.Proofs.YtiiafkjdeoabaaaDoor
