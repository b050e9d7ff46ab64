/-
  disk: Cut, Drop, Read, Pending, Used, Room, New.
-/
import Derived.Test.YtkhpjlgbiicdcaaDskH
set_option linter.unusedVariables false
namespace Go.Proofs.Ytkhpjlgbiicdcaa
open Go.RowKit Go.Maps

theorem bs_nil (w : World) : Bs w none 0 [] := ⟨fun h => absurd rfl h, Nat.le_refl _, by unfold maxLen; omega, fun _ => rfl⟩

set_option maxRecDepth 20000 in
set_option maxHeartbeats 2000000 in
theorem cut_any (g : Nat → Tg) (i : Nat) (J : DJ) (M : Md) (N : Nat) (n : Nm) (z : Int) (w : World) (h : DS w g i J M) (ok : MOk J M N) (hN : N ≤ 1400) (hn : n.length ≤ maxLen) :
    Calls Try.prog 30 #[.pointer (some ⟨J.D, 0, none⟩), .string (str n), .int .i64 z] w fun e w' => e = .returned (.int .i64 (M.cutE n z)) ∧ RS w w' g i J (M.cut n z) (N + 1) := by
  have c2 := h.c2
  have hsl : (fget M.seen n).length ≤ 91750400 := by have := ok.sl n; omega
  have hseenN : M.seenN ≤ 1000000000 := by have := ok.sn; omega
  have hpl : M.pend.length ≤ 1000000 := by have := ok.ln; omega
  have hkc : J.kc ≤ 1000000 := by have := ok.kc; omega
  rcases thereE_cases M n with ⟨ht, hnb, hs⟩ | ht | ht
  · have HT := hide ht
    obtain ⟨y, cy, _, _, look⟩ := h.fs.at n hn
    have hl1 := (look w rfl).1
    have hn24 := isName_le hnb
    have hn1 : n.length ≤ 1000 := by omega
    clear look hnb hs
    by_cases h0 : z < 0
    · have HV : Hid (M.cutE n z = 1 ∧ M.cut n z = M) := by show _ ∧ _; simp [Md.cut, Md.cutE, ht, h0]
      clear ht
      go_enter Try.func30, Try.ntmps30
      go_wp2_with fail
      refine (there_any g i J M n w h hn).mono ?_
      rintro e w' ⟨rfl, rfl⟩
      rw [unhide HT]
      go_wp2
      go_ret
      exact ⟨by rw [(unhide HV).1]; rfl, by rw [(unhide HV).2]; exact RS.same h ok (Below.refl _ _)⟩
    · by_cases h1 : ((fget M.seen n).length : Int) < z
      · have HV : Hid (M.cutE n z = 1 ∧ M.cut n z = M) := by show _ ∧ _; simp [Md.cut, Md.cutE, ht, h1]
        have h0' : 0 ≤ z := by omega
        clear ht h0
        go_enter Try.func30, Try.ntmps30
        go_wp2_with fail
        refine (there_any g i J M n w h hn).mono ?_
        rintro e w' ⟨rfl, rfl⟩
        rw [unhide HT]
        go_wp2
        go_ret
        exact ⟨by rw [(unhide HV).1]; rfl, by rw [(unhide HV).2]; exact RS.same h ok (Below.refl _ _)⟩
      · have HV : Hid (M.cutE n z = 0 ∧ M.cut n z = M.perform ⟨1, n, z.toNat, []⟩) := by show _ ∧ _; simp [Md.cut, Md.cutE, ht, h0, h1]
        have h0' : 0 ≤ z := by omega
        have h1' : z ≤ ((fget M.seen n).length : Int) := by omega
        have HZ : Hid (z = (z.toNat : Int)) := by show _ = _; omega
        clear ht h0 h1
        go_enter Try.func30, Try.ntmps30
        go_wp2_with fail
        refine (there_any g i J M n w h hn).mono ?_
        rintro e w' ⟨rfl, rfl⟩
        rw [unhide HT]
        go_wp2_with fail
        refine (perform_any g i J M ⟨1, n, z.toNat, []⟩ 1 z none 0 _ h rfl (by show (1 : Nat) ≤ 2; omega) hn1 HZ (bs_nil _) (by show (fget M.seen n).length ≤ _; omega) (Nat.le_trans (doF_len (B := 100000000) (fun m => by have := ok.sl m; omega) (by show z.toNat + 0 ≤ _; omega) n) (by omega)) (by show z.toNat ≤ _; omega) (by show (0 : Nat) ≤ _; omega) hseenN hpl hkc).mono ?_
        rintro e w2 ⟨rfl, g2, J2, HD, HS, HJ⟩
        go_wp2
        go_ret
        exact ⟨by rw [(unhide HV).1]; rfl, by rw [(unhide HV).2]; exact RS.of (Below.refl _ _) ok (by show (1 : Nat) ≤ 2; omega) hn24 (by show z.toNat + 0 ≤ _; have := ok.sl n; omega) HD HS HJ⟩
  · have HV : Hid (M.cutE n z = 20 ∧ M.cut n z = M) := by show _ ∧ _; simp [Md.cut, Md.cutE, ht]
    have HT := hide ht
    clear ht
    go_enter Try.func30, Try.ntmps30
    go_wp2_with fail
    refine (there_any g i J M n w h hn).mono ?_
    rintro e w' ⟨rfl, rfl⟩
    rw [unhide HT]
    go_wp2
    go_ret
    exact ⟨by rw [(unhide HV).1]; rfl, by rw [(unhide HV).2]; exact RS.same h ok (Below.refl _ _)⟩
  · have HV : Hid (M.cutE n z = 6 ∧ M.cut n z = M) := by show _ ∧ _; simp [Md.cut, Md.cutE, ht]
    have HT := hide ht
    clear ht
    go_enter Try.func30, Try.ntmps30
    go_wp2_with fail
    refine (there_any g i J M n w h hn).mono ?_
    rintro e w' ⟨rfl, rfl⟩
    rw [unhide HT]
    go_wp2
    go_ret
    exact ⟨by rw [(unhide HV).1]; rfl, by rw [(unhide HV).2]; exact RS.same h ok (Below.refl _ _)⟩

set_option maxRecDepth 20000 in
set_option maxHeartbeats 2000000 in
theorem drop_any (g : Nat → Tg) (i : Nat) (J : DJ) (M : Md) (N : Nat) (n : Nm) (w : World) (h : DS w g i J M) (ok : MOk J M N) (hN : N ≤ 1400) (hn : n.length ≤ maxLen) :
    Calls Try.prog 31 #[.pointer (some ⟨J.D, 0, none⟩), .string (str n)] w fun e w' => e = .returned (.int .i64 (M.thereE n)) ∧ RS w w' g i J (M.drop n) (N + 1) := by
  have c2 := h.c2
  have hsl : (fget M.seen n).length ≤ 91750400 := by have := ok.sl n; omega
  have hseenN : M.seenN ≤ 1000000000 := by have := ok.sn; omega
  have hpl : M.pend.length ≤ 1000000 := by have := ok.ln; omega
  have hkc : J.kc ≤ 1000000 := by have := ok.kc; omega
  rcases thereE_cases M n with ⟨ht, hnb, hs⟩ | ht | ht
  · have HT := hide ht
    have hn24 := isName_le hnb
    have hn1 : n.length ≤ 1000 := by omega
    have HV : Hid (M.drop n = M.perform ⟨2, n, 0, []⟩) := by show _ = _; simp [Md.drop, ht]
    clear ht hnb hs
    go_enter Try.func31, Try.ntmps31
    go_wp2_with fail
    refine (there_any g i J M n w h hn).mono ?_
    rintro e w' ⟨rfl, rfl⟩
    rw [unhide HT]
    go_wp2_with fail
    refine (perform_any g i J M ⟨2, n, 0, []⟩ 2 0 none 0 _ h rfl (by show (2 : Nat) ≤ 2; omega) hn1 rfl (bs_nil _) (by show (fget M.seen n).length ≤ _; omega) (Nat.le_trans (doF_len (B := 100000000) (fun m => by have := ok.sl m; omega) (by show 0 + 0 ≤ _; omega) n) (by omega)) (by show (0 : Nat) ≤ _; omega) (by show (0 : Nat) ≤ _; omega) hseenN hpl hkc).mono ?_
    rintro e w2 ⟨rfl, g2, J2, HD, HS, HJ⟩
    go_wp2
    go_ret
    exact ⟨by rw [unhide HT]; rfl, by rw [unhide HV]; exact RS.of (Below.refl _ _) ok (by show (2 : Nat) ≤ 2; omega) hn24 (by show 0 + 0 ≤ _; omega) HD HS HJ⟩
  · have HV : Hid (M.drop n = M) := by show _ = _; simp [Md.drop, ht]
    have HT := hide ht
    clear ht
    go_enter Try.func31, Try.ntmps31
    go_wp2_with fail
    refine (there_any g i J M n w h hn).mono ?_
    rintro e w' ⟨rfl, rfl⟩
    rw [unhide HT]
    go_wp2
    go_ret
    exact ⟨by rw [unhide HT]; rfl, by rw [unhide HV]; exact RS.same h ok (Below.refl _ _)⟩
  · have HV : Hid (M.drop n = M) := by show _ = _; simp [Md.drop, ht]
    have HT := hide ht
    clear ht
    go_enter Try.func31, Try.ntmps31
    go_wp2_with fail
    refine (there_any g i J M n w h hn).mono ?_
    rintro e w' ⟨rfl, rfl⟩
    rw [unhide HT]
    go_wp2
    go_ret
    exact ⟨by rw [unhide HT]; rfl, by rw [unhide HV]; exact RS.same h ok (Below.refl _ _)⟩

def Md.readB (M : Md) (n : Nm) : List UInt8 := if M.thereE n = 0 then fget M.seen n else []
set_option maxHeartbeats 2000000 in
theorem read_any (g : Nat → Tg) (i : Nat) (J : DJ) (M : Md) (N : Nat) (n : Nm) (w : World) (h : DS w g i J M) (ok : MOk J M N) (hN : N ≤ 1500) (hn : n.length ≤ maxLen) :
    Calls Try.prog 17 #[.pointer (some ⟨J.D, 0, none⟩), .string (str n)] w fun e w' => ∃ y cy, e = .returned (.tuple #[.slice y (M.readB n).length cy, .int .i64 (M.thereE n)]) ∧ OwnB w' w.heap.size y cy (M.readB n) ∧ Below w.heap.size w w' := by
  have c2 := h.c2
  have hsl : (fget M.seen n).length ≤ 100000000 := by have := ok.sl n; omega
  rcases thereE_cases M n with ⟨ht, hnb, hs⟩ | ht | ht
  · have HT := hide ht
    obtain ⟨y, cy, oy, _, look⟩ := h.fs.at n hn
    have hl1 := (look w rfl).1
    have HV : Hid (M.readB n = fget M.seen n) := by show _ = _; simp [Md.readB, ht]
    clear ht hnb hs look
    go_enter Try.func17, Try.ntmps17
    go_wp2_with fail
    refine (there_any g i J M n w h hn).mono ?_
    rintro e w' ⟨rfl, rfl⟩
    rw [unhide HT]
    go_wp2_with fail
    refine (bclone_any (ad y) (fget M.seen n).length cy (fget M.seen n) _ oy.toBs rfl hsl).mono ?_
    rintro e w1 ⟨y1, c1, r, rfl, hr, ho, hb1⟩
    obtain rfl : r = fget M.seen n := unhide hr
    go_wp2
    go_ret2
    exact ⟨y1, c1, by rw [unhide HT, unhide HV]; rfl, by rw [unhide HV]; exact ho, hb1⟩
  · have HV : Hid (M.readB n = []) := by show _ = _; simp [Md.readB, ht]
    have HT := hide ht
    clear ht
    go_enter Try.func17, Try.ntmps17
    go_wp2_with fail
    refine (there_any g i J M n w h hn).mono ?_
    rintro e w' ⟨rfl, rfl⟩
    rw [unhide HT]
    go_wp2
    go_ret2
    exact ⟨none, 0, by rw [unhide HT, unhide HV]; rfl, by rw [unhide HV]; exact OwnB.nil _ _, Below.refl _ _⟩
  · have HV : Hid (M.readB n = []) := by show _ = _; simp [Md.readB, ht]
    have HT := hide ht
    clear ht
    go_enter Try.func17, Try.ntmps17
    go_wp2_with fail
    refine (there_any g i J M n w h hn).mono ?_
    rintro e w' ⟨rfl, rfl⟩
    rw [unhide HT]
    go_wp2
    go_ret2
    exact ⟨none, 0, by rw [unhide HT, unhide HV]; rfl, by rw [unhide HV]; exact OwnB.nil _ _, Below.refl _ _⟩
theorem pending_any (g : Nat → Tg) (i : Nat) (J : DJ) (M : Md) (w : World) (h : DS w g i J M) :
    Calls Try.prog 12 #[.pointer (some ⟨J.D, 0, none⟩)] w fun e w' => e = .returned (.int .i64 (M.pend.length : Int)) ∧ w' = w := by
  have c2 := h.c2
  have c3 := h.c3
  go_enter Try.func12, Try.ntmps12
  go_wp2_with fail
  refine (unmade_not J.D J.S w c2).mono ?_
  rintro e w' ⟨rfl, rfl⟩
  go_wp2
  go_ret
  exact ⟨rfl, rfl⟩
theorem used_any (g : Nat → Tg) (i : Nat) (J : DJ) (M : Md) (w : World) (h : DS w g i J M) :
    Calls Try.prog 13 #[.pointer (some ⟨J.D, 0, none⟩)] w fun e w' => e = .returned (.int .i64 M.used) ∧ w' = w := by
  have c2 := h.c2
  have c5 := h.c5
  go_enter Try.func13, Try.ntmps13
  go_wp2_with fail
  refine (unmade_not J.D J.S w c2).mono ?_
  rintro e w' ⟨rfl, rfl⟩
  go_wp2
  go_ret
  exact ⟨rfl, rfl⟩
theorem rooms_any (g : Nat → Tg) (i : Nat) (J : DJ) (M : Md) (w : World) (h : DS w g i J M) :
    Calls Try.prog 14 #[.pointer (some ⟨J.D, 0, none⟩)] w fun e w' => e = .returned (.int .i64 M.room) ∧ w' = w := by
  have c2 := h.c2
  have c0 := h.c0
  go_enter Try.func14, Try.ntmps14
  go_wp2_with fail
  refine (unmade_not J.D J.S w c2).mono ?_
  rintro e w' ⟨rfl, rfl⟩
  go_wp2
  go_ret
  exact ⟨rfl, rfl⟩
def Md.new (z : Int) : Md := { room := z, last := fun _ => none, lastN := 0, seen := fun _ => none, seenN := 0, pend := [], peaks := fun _ => 0, used := 0 }
set_option maxRecDepth 20000 in
set_option maxHeartbeats 2000000 in
theorem new_any (z : Int) (w : World) (h0 : 0 ≤ z) (h1 : z ≤ 16777216) :
    Calls Try.prog 21 #[.int .i64 z] w fun e w' => e = .returned (.tuple #[.pointer (some ⟨w.heap.size + 1 + 1 + 1, 0, none⟩), .int .i64 0]) ∧ w' = (((w.alloc (.map #[] 0)).alloc (.map #[] 0)).alloc (.map #[] 0)).alloc (.cells #[.int .i64 z, .map (some w.heap.size), .map (some (w.heap.size + 1)), .slice none 0 0, .map (some (w.heap.size + 1 + 1)), .int .i64 0] 58) := by
  have hmm := @run_makeMap Try.prog
  go_enter Try.func21, Try.ntmps21
  go_wp2
  go_ret2
  exact ⟨rfl, rfl⟩
#print axioms cut_any
#print axioms new_any
end Go.Proofs.Ytkhpjlgbiicdcaa
