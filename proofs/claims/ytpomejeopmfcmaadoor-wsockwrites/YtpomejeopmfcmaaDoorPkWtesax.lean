/-
  wsock: Text, isCode, isText; the reference's May, Text.; wsock: Text.; wsock: the reference's May.; wsock: the reference's Text.
-/
import Derived.Test.YtpomejeopmfcmaaDoorPkWtesav
import Derived.Test.YtpomejeopmfcmaaDoorPkWtesao
import Derived.Test.YtpomejeopmfcmaaDoorPkWtesal
import Derived.Test.YtpomejeopmfcmaaDoorPkWtesaw
import Derived.Lib.ConvBytes
section
set_option linter.unusedVariables false
set_option maxRecDepth 1000000
namespace Go.Proofs.YtpomejeopmfcmaaDoor
open Go.RowKit

theorem to_bw (l : List UInt8) (w : World) (hl : l.length ≤ 300000) : ∃ V c, (convert 9 22 (.string (str l))).run Tryd.prog w = .ok (.slice (some ⟨w.heap.size, 0, none⟩) l.length c) V ∧ Below w.heap.size w V ∧ Bs V (some ⟨w.heap.size, 0, none⟩) c l := by
  have hge := grownCap_ge w (str l).size 0 5
  have hle := grownCap_le_maxLen w (str l).size 0 5 (by rw [str_size]; unfold maxLen; omega)
  rw [str_size] at hge hle
  refine ⟨Lib.bytesWorld w 5 (str l), grownCap w (str l).size 0 5, ?_, ?_, ?_⟩
  · have := Lib.run_convert_string_bytes (P := Tryd.prog) w 9 22 5 (str l) Tryd.underlying9 Tryd.underlying22 Tryd.underlying5
    rw [this, str_size]
  · exact ⟨rfl, rfl, rfl, by rw [Lib.bytesWorld_size]; omega, fun k hk => Lib.bytesWorld_at_old w _ _ k hk⟩
  · rw [str_size]
    refine ⟨fun _ => ⟨w.heap.size, 0, rfl, fun i hi => ?_⟩, by omega, hle, fun h => by cases h⟩
    rw [Nat.zero_add, Lib.bytesWorld_cell w _ (str l) i (by rw [str_size]; exact hi)]
    rfl
def okC (c : Int) : Bool := (decide (1000 ≤ c) && decide (c ≤ 1003)) || (decide (1007 ≤ c) && decide (c ≤ 1011)) || (decide (3000 ≤ c) && decide (c ≤ 4999))
theorem okC_nat {c : Int} (h : okC c = true) : ∃ C : Nat, c = (C : Int) ∧ 1000 ≤ C ∧ C ≤ 4999 := by
  unfold okC at h
  simp only [Bool.or_eq_true, Bool.and_eq_true, decide_eq_true_eq] at h
  exact ⟨c.toNat, by omega, by omega, by omega⟩
def txE (c : Int) (l : List UInt8) : Int := if okC c = true then (if chI l < 0 then (if l.length ≤ 123 then 0 else 4) else 90) else 1
def txR (c : Int) (l : List UInt8) : List UInt8 := if txE c l = 0 then [UInt8.ofNat (c.toNat / 256), UInt8.ofNat (c.toNat % 256)] ++ l else []

set_option maxHeartbeats 2000000 in
theorem isCode_any (c : Int) (w : World) : Calls Tryd.prog 17 #[.int .i64 c] w fun e w' => e = .returned (.bool (okC c)) ∧ w' = w := by
  rcases (show (c < 1000) ∨ (1000 ≤ c ∧ c ≤ 1003) ∨ (1003 < c ∧ c < 1007) ∨ (1007 ≤ c ∧ c ≤ 1011) ∨ (1011 < c ∧ c < 3000) ∨ (3000 ≤ c ∧ c ≤ 4999) ∨ (4999 < c) by omega) with h | h | h | h | h | h | h
  · have d0 : decide ((1000 : Int) ≤ c) = false := decide_eq_false (by omega)
    have d1 : decide (c ≤ 1003) = true := decide_eq_true (by omega)
    have d2 : decide ((1007 : Int) ≤ c) = false := decide_eq_false (by omega)
    have d3 : decide (c ≤ 1011) = true := decide_eq_true (by omega)
    have d4 : decide ((3000 : Int) ≤ c) = false := decide_eq_false (by omega)
    have d5 : decide (c ≤ 4999) = true := decide_eq_true (by omega)
    have HK : Hid (okC c = false) := by show _ = _; unfold okC; rw [d0, d1, d2, d3, d4, d5]; rfl
    clear h
    go_enter Tryd.func17, Tryd.ntmps17
    go_wp2
    go_ret
    exact ⟨by rw [unhide HK]; rfl, rfl⟩
  · have d0 : decide ((1000 : Int) ≤ c) = true := decide_eq_true (by omega)
    have d1 : decide (c ≤ 1003) = true := decide_eq_true (by omega)
    have d2 : decide ((1007 : Int) ≤ c) = false := decide_eq_false (by omega)
    have d3 : decide (c ≤ 1011) = true := decide_eq_true (by omega)
    have d4 : decide ((3000 : Int) ≤ c) = false := decide_eq_false (by omega)
    have d5 : decide (c ≤ 4999) = true := decide_eq_true (by omega)
    have HK : Hid (okC c = true) := by show _ = _; unfold okC; rw [d0, d1, d2, d3, d4, d5]; rfl
    clear h
    go_enter Tryd.func17, Tryd.ntmps17
    go_wp2
    go_ret
    exact ⟨by rw [unhide HK]; rfl, rfl⟩
  · have d0 : decide ((1000 : Int) ≤ c) = true := decide_eq_true (by omega)
    have d1 : decide (c ≤ 1003) = false := decide_eq_false (by omega)
    have d2 : decide ((1007 : Int) ≤ c) = false := decide_eq_false (by omega)
    have d3 : decide (c ≤ 1011) = true := decide_eq_true (by omega)
    have d4 : decide ((3000 : Int) ≤ c) = false := decide_eq_false (by omega)
    have d5 : decide (c ≤ 4999) = true := decide_eq_true (by omega)
    have HK : Hid (okC c = false) := by show _ = _; unfold okC; rw [d0, d1, d2, d3, d4, d5]; rfl
    clear h
    go_enter Tryd.func17, Tryd.ntmps17
    go_wp2
    go_ret
    exact ⟨by rw [unhide HK]; rfl, rfl⟩
  · have d0 : decide ((1000 : Int) ≤ c) = true := decide_eq_true (by omega)
    have d1 : decide (c ≤ 1003) = false := decide_eq_false (by omega)
    have d2 : decide ((1007 : Int) ≤ c) = true := decide_eq_true (by omega)
    have d3 : decide (c ≤ 1011) = true := decide_eq_true (by omega)
    have d4 : decide ((3000 : Int) ≤ c) = false := decide_eq_false (by omega)
    have d5 : decide (c ≤ 4999) = true := decide_eq_true (by omega)
    have HK : Hid (okC c = true) := by show _ = _; unfold okC; rw [d0, d1, d2, d3, d4, d5]; rfl
    clear h
    go_enter Tryd.func17, Tryd.ntmps17
    go_wp2
    go_ret
    exact ⟨by rw [unhide HK]; rfl, rfl⟩
  · have d0 : decide ((1000 : Int) ≤ c) = true := decide_eq_true (by omega)
    have d1 : decide (c ≤ 1003) = false := decide_eq_false (by omega)
    have d2 : decide ((1007 : Int) ≤ c) = true := decide_eq_true (by omega)
    have d3 : decide (c ≤ 1011) = false := decide_eq_false (by omega)
    have d4 : decide ((3000 : Int) ≤ c) = false := decide_eq_false (by omega)
    have d5 : decide (c ≤ 4999) = true := decide_eq_true (by omega)
    have HK : Hid (okC c = false) := by show _ = _; unfold okC; rw [d0, d1, d2, d3, d4, d5]; rfl
    clear h
    go_enter Tryd.func17, Tryd.ntmps17
    go_wp2
    go_ret
    exact ⟨by rw [unhide HK]; rfl, rfl⟩
  · have d0 : decide ((1000 : Int) ≤ c) = true := decide_eq_true (by omega)
    have d1 : decide (c ≤ 1003) = false := decide_eq_false (by omega)
    have d2 : decide ((1007 : Int) ≤ c) = true := decide_eq_true (by omega)
    have d3 : decide (c ≤ 1011) = false := decide_eq_false (by omega)
    have d4 : decide ((3000 : Int) ≤ c) = true := decide_eq_true (by omega)
    have d5 : decide (c ≤ 4999) = true := decide_eq_true (by omega)
    have HK : Hid (okC c = true) := by show _ = _; unfold okC; rw [d0, d1, d2, d3, d4, d5]; rfl
    clear h
    go_enter Tryd.func17, Tryd.ntmps17
    go_wp2
    go_ret
    exact ⟨by rw [unhide HK]; rfl, rfl⟩
  · have d0 : decide ((1000 : Int) ≤ c) = true := decide_eq_true (by omega)
    have d1 : decide (c ≤ 1003) = false := decide_eq_false (by omega)
    have d2 : decide ((1007 : Int) ≤ c) = true := decide_eq_true (by omega)
    have d3 : decide (c ≤ 1011) = false := decide_eq_false (by omega)
    have d4 : decide ((3000 : Int) ≤ c) = true := decide_eq_true (by omega)
    have d5 : decide (c ≤ 4999) = false := decide_eq_false (by omega)
    have HK : Hid (okC c = false) := by show _ = _; unfold okC; rw [d0, d1, d2, d3, d4, d5]; rfl
    clear h
    go_enter Tryd.func17, Tryd.ntmps17
    go_wp2
    go_ret
    exact ⟨by rw [unhide HK]; rfl, rfl⟩
set_option maxHeartbeats 1000000 in
theorem isText_any (a : Option Addr) (cap : Nat) (l : List UInt8) (w : World) (hT : Tabs w) (hB : Bs w a cap l) (hl : l.length ≤ 50000000) :
    Calls Tryd.prog 18 #[.slice a l.length cap] w fun e w' => e = .returned (.bool (decide (chI l < 0))) ∧ Below w.heap.size w w' := by
  have HC := hide (chars_any a l.length cap l w hT hB rfl hl)
  clear hT hB
  go_enter Tryd.func18, Tryd.ntmps18
  go_wp2_with (go_at_call 27; refine (unhide HC).mono ?_; rintro e w2 ⟨rfl, hb⟩)
  go_ret
  exact ⟨rfl, hb⟩
end Go.Proofs.YtpomejeopmfcmaaDoor
end
section
set_option linter.unusedVariables false
set_option maxRecDepth 1000000
namespace Go.Proofs.YtpomejeopmfcmaaDoor
open Go.RowKit

set_option linter.unusedSimpArgs false in
set_option maxHeartbeats 4000000 in
theorem txt_any (c : Int) (l : List UInt8) (w : World) (hT : Tabs w) (hl : l.length ≤ 262144) :
    Calls Tryd.prog 8 #[.int .i64 c, .string (str l)] w fun e w' => ∃ a' c' r, e = .returned (.tuple #[.slice a' r.length c', .int .i64 (txE c l)]) ∧ Hid (r = txR c l) ∧ Hid (OwnB w' w.heap.size a' c' r) ∧ Hid (Below w.heap.size w w') := by
  have hsz : (str l).size = l.length := str_size l
  have HT := hide hT
  clear hT
  cases hk : okC c with
  | false =>
    have HK := hide hk
    have HE : Hid (txE c l = 1) := by show _ = _; unfold txE; rw [hk]; rfl
    have HR : Hid (([] : List UInt8) = txR c l) := by show _ = _; unfold txR; rw [unhide HE]; rfl
    clear hk
    go_enter Tryd.func8, Tryd.ntmps8
    go_wp2_with (go_at_call 17; refine (isCode_any c w).mono ?_; rintro e w1 ⟨rfl, hw1⟩; rw [unhide HK]; have hw1 := hw1.symm; subst hw1; have HB1 := hide (Below.refl w.heap.size w))
    go_ret2
    exact ⟨none, 0, [], by rw [unhide HE]; rfl, HR, OwnB.nil _ _, HB1⟩
  | true =>
    have HK := hide hk
    obtain ⟨C, hC, hC1, hC2⟩ := okC_nat hk
    have HC := hide hC
    clear hC
    go_enter Tryd.func8, Tryd.ntmps8
    go_upto_region 3 with (go_at_call 17; refine (isCode_any c w).mono ?_; rintro e w1 ⟨rfl, hw1⟩; rw [unhide HK]; have hw1 := hw1.symm; subst hw1; have HB1 := hide (Below.refl w.heap.size w))
    obtain ⟨V, cv, hconv, hbV, hbs⟩ := to_bw l w (by omega)
    have HBs := hide hbs
    have HBV := hide ((unhide HB1).trans (hbV.mono (unhide HB1).size))
    have HTV := hide (Utf8Tabs_below (unhide HT) (unhide HBV))
    clear hbV hbs
    by_cases hch : chI l < 0
    · have hcd : decide (chI l < 0) = true := decide_eq_true hch
      have hcd2 : decide ((0 : Int) ≤ chI l) = false := decide_eq_false (by omega)
      have HCH := hide hcd
      by_cases h123 : l.length ≤ 123
      · have d123 : decide ((123 : Int) < (l.length : Int)) = false := decide_eq_false (by omega)
        have HE : Hid (txE c l = 0) := by show _ = _; unfold txE; rw [if_pos hk, if_pos hch, if_pos h123]
        have hC := unhide HC
        clear HC
        subst hC
        obtain ⟨C1, hC1'⟩ : ∃ C1, C1 = C / 256 := ⟨_, rfl⟩
        obtain ⟨C2, hC2'⟩ : ∃ C2, C2 = C % 256 := ⟨_, rfl⟩
        have t1 : (C : Int).tdiv 256 = (C1 : Int) := by rw [hC1']; rfl
        have t2 : (C : Int) / 256 = (C1 : Int) := by rw [hC1']; rfl
        have t3 : (C : Int).tmod 256 = (C2 : Int) := by rw [hC2']; rfl
        have t4 : (C : Int) % 256 = (C2 : Int) := by rw [hC2']; rfl
        have hb1 : C1 < 256 := by omega
        have hb2 : C2 < 256 := by omega
        obtain ⟨c1, hc1⟩ : ∃ x, x = UInt8.ofNat C1 := ⟨_, rfl⟩
        obtain ⟨c2, hc2⟩ : ∃ x, x = UInt8.ofNat C2 := ⟨_, rfl⟩
        have q1 : c1.toNat = C1 := by rw [hc1, UInt8.toNat_ofNat']; omega
        have q2 : c2.toNat = C2 := by rw [hc2, UInt8.toNat_ofNat']; omega
        have HR : Hid (txR (C : Int) l = [c1, c2] ++ l) := by
          show _ = _
          unfold txR
          rw [if_pos (unhide HE), Int.toNat_natCast, hc1, hc2, hC1', hC2']
        clear hC1' hC2' hc1 hc2 hk hch h123
        go_upto_region 7 with (go_at_call 18; refine (isText_any _ _ l V (unhide HTV) (unhide HBs) (by omega)).mono ?_; rw [unhide HCH]; rintro e w3 ⟨rfl, hb3⟩)
        have HB3 := hide ((unhide HBV).trans (hb3.mono (unhide HBV).size))
        have hz3 := (unhide HB3).size
        clear hb3
        go_wp2_with (at_builtin; refine wp_apps _ rfl _ _ rfl w.heap.size (some ⟨w3.heap.size, 0, none⟩) 2 [c1, c2] rfl (own_lit2 w3 w.heap.size _ _ c1 c2 ?h1 ?h2 hz3) (str l) rfl ?h5 ?h6 ?_)
        case h1 => first | omega | (simp only [IntKind.wrap_u8]; omega)
        case h2 => first | omega | (simp only [IntKind.wrap_u8]; omega)
        case h5 => rw [hsz]; simp; omega
        case h6 => simp; omega
        intro a5 k5 r5 w5 hr5 ho5 hg5
        have HR5 : Hid (r5 = txR (C : Int) l) := by show _ = _; rw [hr5.out, unhide HR]; rfl
        have HB5 : Hid (Below w.heap.size w w5) := below_grown (a := some ⟨w3.heap.size, 0, none⟩) ((unhide HB3).alloc (unhide HB3).size _) hg5 (Nat.le_refl _) (fun k hk => by simp [blk] at hk; omega)
        have HO5 := hide ho5
        clear hr5 hg5 ho5
        go_wp2
        go_ret2
        exact ⟨a5, k5, r5, by rw [unhide HE]; rfl, HR5, HO5, HB5⟩
      · have d123 : decide ((123 : Int) < (l.length : Int)) = true := decide_eq_true (by omega)
        have HE : Hid (txE c l = 4) := by show _ = _; unfold txE; rw [if_pos hk, if_pos hch, if_neg h123]
        have HR : Hid (([] : List UInt8) = txR c l) := by show _ = _; unfold txR; rw [unhide HE]; rfl
        clear hk hch h123
        go_wp2_with (go_at_call 18; refine (isText_any _ _ l V (unhide HTV) (unhide HBs) (by omega)).mono ?_; rw [unhide HCH]; rintro e w3 ⟨rfl, hb3⟩)
        go_ret2
        exact ⟨none, 0, [], by rw [unhide HE]; rfl, HR, OwnB.nil _ _, (unhide HBV).trans (hb3.mono (unhide HBV).size)⟩
    · have hcd : decide (chI l < 0) = false := decide_eq_false hch
      have hcd2 : decide ((0 : Int) ≤ chI l) = true := decide_eq_true (by omega)
      have HCH := hide hcd
      have HE : Hid (txE c l = 90) := by show _ = _; unfold txE; rw [if_pos hk, if_neg hch]
      have HR : Hid (([] : List UInt8) = txR c l) := by show _ = _; unfold txR; rw [unhide HE]; rfl
      clear hk hch
      go_wp2_with (go_at_call 18; refine (isText_any _ _ l V (unhide HTV) (unhide HBs) (by omega)).mono ?_; rw [unhide HCH]; rintro e w3 ⟨rfl, hb3⟩)
      go_ret2
      exact ⟨none, 0, [], by rw [unhide HE]; rfl, HR, OwnB.nil _ _, (unhide HBV).trans (hb3.mono (unhide HBV).size)⟩
#print axioms txt_any
end Go.Proofs.YtpomejeopmfcmaaDoor
end
section
set_option linter.unusedVariables false
set_option maxRecDepth 1000000
namespace Go.Proofs.YtpomejeopmfcmaaDoor
open Go.RowKit

set_option maxHeartbeats 4000000 in
theorem may_any (c : Int) (w : World) : Calls Tryd.prog 19 #[.int .i64 c] w fun e w' => e = .returned (.bool (okC c)) ∧ Below w.heap.size w w' := by
  rcases (show (c < 1000) ∨ (1000 ≤ c ∧ c ≤ 1003) ∨ (1003 < c ∧ c < 1007) ∨ (1007 ≤ c ∧ c ≤ 1011) ∨ (1011 < c ∧ c < 3000) ∨ (3000 ≤ c ∧ c ≤ 4999) ∨ (4999 < c) by omega) with h | h | h | h | h | h | h
  · have d0 : decide ((1000 : Int) ≤ c) = false := decide_eq_false (by omega)
    have d1 : decide (c ≤ 1003) = true := decide_eq_true (by omega)
    have d2 : decide ((1007 : Int) ≤ c) = false := decide_eq_false (by omega)
    have d3 : decide (c ≤ 1011) = true := decide_eq_true (by omega)
    have d4 : decide ((3000 : Int) ≤ c) = false := decide_eq_false (by omega)
    have d5 : decide (c ≤ 4999) = true := decide_eq_true (by omega)
    have HK : Hid (okC c = false) := by show _ = _; unfold okC; rw [d0, d1, d2, d3, d4, d5]; rfl
    clear h
    go_enter Tryd.func19, Tryd.ntmps19
    go_wp2
    refine wp_loop_rounds 4 ?_
    rw [rounds_succ]
    go_wp2
    rw [rounds_succ]
    go_wp2
    rw [rounds_succ]
    go_wp2
    rw [rounds_succ]
    go_wp2
    go_ret
    refine ⟨by rw [unhide HK]; rfl, ?_⟩
    exact ((((Below.refl _ _).alloc (Nat.le_refl _) _).alloc (by simp) _).alloc (by simp; omega) _).alloc (by simp; omega) _
  · have d0 : decide ((1000 : Int) ≤ c) = true := decide_eq_true (by omega)
    have d1 : decide (c ≤ 1003) = true := decide_eq_true (by omega)
    have d2 : decide ((1007 : Int) ≤ c) = false := decide_eq_false (by omega)
    have d3 : decide (c ≤ 1011) = true := decide_eq_true (by omega)
    have d4 : decide ((3000 : Int) ≤ c) = false := decide_eq_false (by omega)
    have d5 : decide (c ≤ 4999) = true := decide_eq_true (by omega)
    have HK : Hid (okC c = true) := by show _ = _; unfold okC; rw [d0, d1, d2, d3, d4, d5]; rfl
    clear h
    go_enter Tryd.func19, Tryd.ntmps19
    go_wp2
    refine wp_loop_rounds 4 ?_
    rw [rounds_succ]
    go_wp2
    go_ret
    refine ⟨by rw [unhide HK]; rfl, ?_⟩
    exact ((((Below.refl _ _).alloc (Nat.le_refl _) _).alloc (by simp) _).alloc (by simp; omega) _).alloc (by simp; omega) _
  · have d0 : decide ((1000 : Int) ≤ c) = true := decide_eq_true (by omega)
    have d1 : decide (c ≤ 1003) = false := decide_eq_false (by omega)
    have d2 : decide ((1007 : Int) ≤ c) = false := decide_eq_false (by omega)
    have d3 : decide (c ≤ 1011) = true := decide_eq_true (by omega)
    have d4 : decide ((3000 : Int) ≤ c) = false := decide_eq_false (by omega)
    have d5 : decide (c ≤ 4999) = true := decide_eq_true (by omega)
    have HK : Hid (okC c = false) := by show _ = _; unfold okC; rw [d0, d1, d2, d3, d4, d5]; rfl
    clear h
    go_enter Tryd.func19, Tryd.ntmps19
    go_wp2
    refine wp_loop_rounds 4 ?_
    rw [rounds_succ]
    go_wp2
    rw [rounds_succ]
    go_wp2
    rw [rounds_succ]
    go_wp2
    rw [rounds_succ]
    go_wp2
    go_ret
    refine ⟨by rw [unhide HK]; rfl, ?_⟩
    exact ((((Below.refl _ _).alloc (Nat.le_refl _) _).alloc (by simp) _).alloc (by simp; omega) _).alloc (by simp; omega) _
  · have d0 : decide ((1000 : Int) ≤ c) = true := decide_eq_true (by omega)
    have d1 : decide (c ≤ 1003) = false := decide_eq_false (by omega)
    have d2 : decide ((1007 : Int) ≤ c) = true := decide_eq_true (by omega)
    have d3 : decide (c ≤ 1011) = true := decide_eq_true (by omega)
    have d4 : decide ((3000 : Int) ≤ c) = false := decide_eq_false (by omega)
    have d5 : decide (c ≤ 4999) = true := decide_eq_true (by omega)
    have HK : Hid (okC c = true) := by show _ = _; unfold okC; rw [d0, d1, d2, d3, d4, d5]; rfl
    clear h
    go_enter Tryd.func19, Tryd.ntmps19
    go_wp2
    refine wp_loop_rounds 4 ?_
    rw [rounds_succ]
    go_wp2
    rw [rounds_succ]
    go_wp2
    go_ret
    refine ⟨by rw [unhide HK]; rfl, ?_⟩
    exact ((((Below.refl _ _).alloc (Nat.le_refl _) _).alloc (by simp) _).alloc (by simp; omega) _).alloc (by simp; omega) _
  · have d0 : decide ((1000 : Int) ≤ c) = true := decide_eq_true (by omega)
    have d1 : decide (c ≤ 1003) = false := decide_eq_false (by omega)
    have d2 : decide ((1007 : Int) ≤ c) = true := decide_eq_true (by omega)
    have d3 : decide (c ≤ 1011) = false := decide_eq_false (by omega)
    have d4 : decide ((3000 : Int) ≤ c) = false := decide_eq_false (by omega)
    have d5 : decide (c ≤ 4999) = true := decide_eq_true (by omega)
    have HK : Hid (okC c = false) := by show _ = _; unfold okC; rw [d0, d1, d2, d3, d4, d5]; rfl
    clear h
    go_enter Tryd.func19, Tryd.ntmps19
    go_wp2
    refine wp_loop_rounds 4 ?_
    rw [rounds_succ]
    go_wp2
    rw [rounds_succ]
    go_wp2
    rw [rounds_succ]
    go_wp2
    rw [rounds_succ]
    go_wp2
    go_ret
    refine ⟨by rw [unhide HK]; rfl, ?_⟩
    exact ((((Below.refl _ _).alloc (Nat.le_refl _) _).alloc (by simp) _).alloc (by simp; omega) _).alloc (by simp; omega) _
  · have d0 : decide ((1000 : Int) ≤ c) = true := decide_eq_true (by omega)
    have d1 : decide (c ≤ 1003) = false := decide_eq_false (by omega)
    have d2 : decide ((1007 : Int) ≤ c) = true := decide_eq_true (by omega)
    have d3 : decide (c ≤ 1011) = false := decide_eq_false (by omega)
    have d4 : decide ((3000 : Int) ≤ c) = true := decide_eq_true (by omega)
    have d5 : decide (c ≤ 4999) = true := decide_eq_true (by omega)
    have HK : Hid (okC c = true) := by show _ = _; unfold okC; rw [d0, d1, d2, d3, d4, d5]; rfl
    clear h
    go_enter Tryd.func19, Tryd.ntmps19
    go_wp2
    refine wp_loop_rounds 4 ?_
    rw [rounds_succ]
    go_wp2
    rw [rounds_succ]
    go_wp2
    rw [rounds_succ]
    go_wp2
    go_ret
    refine ⟨by rw [unhide HK]; rfl, ?_⟩
    exact ((((Below.refl _ _).alloc (Nat.le_refl _) _).alloc (by simp) _).alloc (by simp; omega) _).alloc (by simp; omega) _
  · have d0 : decide ((1000 : Int) ≤ c) = true := decide_eq_true (by omega)
    have d1 : decide (c ≤ 1003) = false := decide_eq_false (by omega)
    have d2 : decide ((1007 : Int) ≤ c) = true := decide_eq_true (by omega)
    have d3 : decide (c ≤ 1011) = false := decide_eq_false (by omega)
    have d4 : decide ((3000 : Int) ≤ c) = true := decide_eq_true (by omega)
    have d5 : decide (c ≤ 4999) = false := decide_eq_false (by omega)
    have HK : Hid (okC c = false) := by show _ = _; unfold okC; rw [d0, d1, d2, d3, d4, d5]; rfl
    clear h
    go_enter Tryd.func19, Tryd.ntmps19
    go_wp2
    refine wp_loop_rounds 4 ?_
    rw [rounds_succ]
    go_wp2
    rw [rounds_succ]
    go_wp2
    rw [rounds_succ]
    go_wp2
    rw [rounds_succ]
    go_wp2
    go_ret
    refine ⟨by rw [unhide HK]; rfl, ?_⟩
    exact ((((Below.refl _ _).alloc (Nat.le_refl _) _).alloc (by simp) _).alloc (by simp; omega) _).alloc (by simp; omega) _
end Go.Proofs.YtpomejeopmfcmaaDoor
end
section
set_option linter.unusedVariables false
set_option maxRecDepth 1000000
namespace Go.Proofs.YtpomejeopmfcmaaDoor
open Go.RowKit

set_option linter.unusedSimpArgs false in
set_option maxHeartbeats 4000000 in
theorem rtxt_any (c : Int) (l : List UInt8) (w : World) (hl : l.length ≤ 262144) :
    Calls Tryd.prog 9 #[.int .i64 c, .string (str l)] w fun e w' => ∃ a' c' r, e = .returned (.tuple #[.slice a' r.length c', .int .i64 (txE c l)]) ∧ Hid (r = txR c l) ∧ Hid (OwnB w' w.heap.size a' c' r) ∧ Hid (Below w.heap.size w w') := by
  have hsz : (str l).size = l.length := str_size l
  cases hk : okC c with
  | false =>
    have HK := hide hk
    have HE : Hid (txE c l = 1) := by show _ = _; unfold txE; rw [hk]; rfl
    have HR : Hid (([] : List UInt8) = txR c l) := by show _ = _; unfold txR; rw [unhide HE]; rfl
    clear hk
    go_enter Tryd.func9, Tryd.ntmps9
    go_wp2_with (go_at_call 19; refine (may_any c w).mono ?_; rintro e w1 ⟨rfl, hb1⟩; rw [unhide HK]; have HB1 := hide hb1; clear hb1)
    go_ret2
    exact ⟨none, 0, [], by rw [unhide HE]; rfl, HR, OwnB.nil _ _, HB1⟩
  | true =>
    have HK := hide hk
    obtain ⟨C, hC, hC1, hC2⟩ := okC_nat hk
    have HC := hide hC
    clear hC
    go_enter Tryd.func9, Tryd.ntmps9
    go_upto_region 3 with (go_at_call 19; refine (may_any c w).mono ?_; rintro e w1 ⟨rfl, hb1⟩; rw [unhide HK]; have HB1 := hide hb1; clear hb1)
    obtain ⟨V, cv, hconv, hbV, hbs⟩ := to_bw l w1 (by omega)
    have HBs := hide hbs
    have HBV := hide ((unhide HB1).trans (hbV.mono (unhide HB1).size))
    clear hbV hbs
    by_cases hch : chI l < 0
    · have hcd : decide (chI l < 0) = true := decide_eq_true hch
      have hcd2 : decide ((0 : Int) ≤ chI l) = false := decide_eq_false (by omega)
      have HCH := hide hcd
      by_cases h123 : l.length ≤ 123
      · have d123 : decide ((123 : Int) < (l.length : Int)) = false := decide_eq_false (by omega)
        have HE : Hid (txE c l = 0) := by show _ = _; unfold txE; rw [if_pos hk, if_pos hch, if_pos h123]
        have hC := unhide HC
        clear HC
        subst hC
        obtain ⟨C1, hC1'⟩ : ∃ C1, C1 = C / 256 := ⟨_, rfl⟩
        obtain ⟨C2, hC2'⟩ : ∃ C2, C2 = C % 256 := ⟨_, rfl⟩
        have t1 : (C : Int).tdiv 256 = (C1 : Int) := by rw [hC1']; rfl
        have t2 : (C : Int) / 256 = (C1 : Int) := by rw [hC1']; rfl
        have t3 : (C : Int).tmod 256 = (C2 : Int) := by rw [hC2']; rfl
        have t4 : (C : Int) % 256 = (C2 : Int) := by rw [hC2']; rfl
        have hb1 : C1 < 256 := by omega
        have hb2 : C2 < 256 := by omega
        obtain ⟨c1, hc1⟩ : ∃ x, x = UInt8.ofNat C1 := ⟨_, rfl⟩
        obtain ⟨c2, hc2⟩ : ∃ x, x = UInt8.ofNat C2 := ⟨_, rfl⟩
        have q1 : c1.toNat = C1 := by rw [hc1, UInt8.toNat_ofNat']; omega
        have q2 : c2.toNat = C2 := by rw [hc2, UInt8.toNat_ofNat']; omega
        have HR : Hid (txR (C : Int) l = [c1, c2] ++ l) := by
          show _ = _
          unfold txR
          rw [if_pos (unhide HE), Int.toNat_natCast, hc1, hc2, hC1', hC2']
        clear hC1' hC2' hc1 hc2 hk hch h123
        go_upto_region 7 with (go_at_call 20; refine (rchars_any (fun b off cap l w h1 h2 h3 h4 h5 => first_any b off cap l w h1 h2 h3 h4 h5) _ _ _ l V (unhide HBs) rfl (by omega)).mono ?_; rintro e w3 ⟨rfl, hb3⟩)
        have HB3 := hide ((unhide HBV).trans (hb3.mono (unhide HBV).size))
        have hz3 := (unhide HB3).size
        clear hb3
        go_wp2_with (at_builtin; refine wp_apps _ rfl _ _ rfl w.heap.size (some ⟨w3.heap.size, 0, none⟩) 2 [c1, c2] rfl (own_lit2 w3 w.heap.size _ _ c1 c2 ?h1 ?h2 hz3) (str l) rfl ?h5 ?h6 ?_)
        case h1 => first | omega | (simp only [IntKind.wrap_u8]; omega)
        case h2 => first | omega | (simp only [IntKind.wrap_u8]; omega)
        case h5 => rw [hsz]; simp; omega
        case h6 => simp; omega
        intro a5 k5 r5 w5 hr5 ho5 hg5
        have HR5 : Hid (r5 = txR (C : Int) l) := by show _ = _; rw [hr5.out, unhide HR]; rfl
        have HB5 : Hid (Below w.heap.size w w5) := below_grown (a := some ⟨w3.heap.size, 0, none⟩) ((unhide HB3).alloc (unhide HB3).size _) hg5 (Nat.le_refl _) (fun k hk => by simp [blk] at hk; omega)
        have HO5 := hide ho5
        clear hr5 hg5 ho5
        go_wp2
        go_ret2
        exact ⟨a5, k5, r5, by rw [unhide HE]; rfl, HR5, HO5, HB5⟩
      · have d123 : decide ((123 : Int) < (l.length : Int)) = true := decide_eq_true (by omega)
        have HE : Hid (txE c l = 4) := by show _ = _; unfold txE; rw [if_pos hk, if_pos hch, if_neg h123]
        have HR : Hid (([] : List UInt8) = txR c l) := by show _ = _; unfold txR; rw [unhide HE]; rfl
        clear hk hch h123
        go_wp2_with (go_at_call 20; refine (rchars_any (fun b off cap l w h1 h2 h3 h4 h5 => first_any b off cap l w h1 h2 h3 h4 h5) _ _ _ l V (unhide HBs) rfl (by omega)).mono ?_; rintro e w3 ⟨rfl, hb3⟩)
        go_ret2
        exact ⟨none, 0, [], by rw [unhide HE]; rfl, HR, OwnB.nil _ _, (unhide HBV).trans (hb3.mono (unhide HBV).size)⟩
    · have hcd : decide (chI l < 0) = false := decide_eq_false hch
      have hcd2 : decide ((0 : Int) ≤ chI l) = true := decide_eq_true (by omega)
      have HCH := hide hcd
      have HE : Hid (txE c l = 90) := by show _ = _; unfold txE; rw [if_pos hk, if_neg hch]
      have HR : Hid (([] : List UInt8) = txR c l) := by show _ = _; unfold txR; rw [unhide HE]; rfl
      clear hk hch
      go_wp2_with (go_at_call 20; refine (rchars_any (fun b off cap l w h1 h2 h3 h4 h5 => first_any b off cap l w h1 h2 h3 h4 h5) _ _ _ l V (unhide HBs) rfl (by omega)).mono ?_; rintro e w3 ⟨rfl, hb3⟩)
      go_ret2
      exact ⟨none, 0, [], by rw [unhide HE]; rfl, HR, OwnB.nil _ _, (unhide HBV).trans (hb3.mono (unhide HBV).size)⟩
#print axioms rtxt_any
end Go.Proofs.YtpomejeopmfcmaaDoor
end
