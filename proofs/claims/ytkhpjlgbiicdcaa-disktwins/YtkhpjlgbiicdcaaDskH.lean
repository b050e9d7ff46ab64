/-
  disk: New, Write, Cut, Drop, Read, Pending, Used, Room; the bounds that a disk keeps.
-/
import Derived.Test.YtkhpjlgbiicdcaaDskG
set_option linter.unusedVariables false
namespace Go.Proofs.Ytkhpjlgbiicdcaa
open Go.RowKit Go.Maps

/-! ### the plain model's calls -/
def Md.thereE (M : Md) (n : Nm) : Int := if isName n then (if (M.seen n).isSome then 0 else 20) else 6
def Md.writeE (M : Md) (n : Nm) (k : Nat) : Int := if isName n then (if M.room? n k then 0 else 7) else 6
def Md.write (M : Md) (n : Nm) (b : List UInt8) : Md := if M.writeE n b.length = 0 then M.perform ⟨0, n, (fget M.seen n).length, b⟩ else M
def Md.cutE (M : Md) (n : Nm) (z : Int) : Int := if M.thereE n = 0 then (if z < 0 ∨ ((fget M.seen n).length : Int) < z then 1 else 0) else M.thereE n
def Md.cut (M : Md) (n : Nm) (z : Int) : Md := if M.cutE n z = 0 then M.perform ⟨1, n, z.toNat, []⟩ else M
def Md.drop (M : Md) (n : Nm) : Md := if M.thereE n = 0 then M.perform ⟨2, n, 0, []⟩ else M

/-! ### bounds -/
structure MOk (J : DJ) (M : Md) (N : Nat) : Prop where
  r0 : 0 ≤ M.room
  r1 : M.room ≤ 16777216
  ln : M.lastN + M.pend.length ≤ N
  sn : M.seenN ≤ N
  kc : J.kc + M.pend.length ≤ 2 * N
  sl : ∀ n, (fget M.seen n).length ≤ N * 65536
  ll : ∀ n, (fget M.last n).length ≤ N * 65536
  pe : ∀ a ∈ M.pend, a.k ≤ 2 ∧ a.n.length ≤ 24 ∧ a.p + a.b.length ≤ N * 65536
theorem over_len (l : List UInt8) (p : Nat) (b : List UInt8) : (over l p b).length = p + b.length := by
  simp [over]; omega
theorem doF_len {f : Files} {a : Ac} {B : Nat} (h : ∀ n, (fget f n).length ≤ B) (ha : a.p + a.b.length ≤ B) : ∀ n, (fget (doF f a) n).length ≤ B := by
  intro n
  unfold doF
  by_cases hn : n = a.n
  · subst hn
    split
    · simp only [fget, upd_same, Option.getD_some]; rw [over_len]; exact ha
    · split
      · split
        · simp only [fget, upd_same, Option.getD_some]
          rw [List.length_take]
          exact Nat.le_trans (Nat.min_le_right _ _) (h _)
        · exact h _
      · simp [fget, upd_same]
  · split
    · simp only [fget, upd_other _ _ _ _ hn]; exact h n
    · split
      · split
        · simp only [fget, upd_other _ _ _ _ hn]; exact h n
        · exact h n
      · simp only [fget, upd_other _ _ _ _ hn]; exact h n
theorem doN_le (f : Files) (c : Nat) (a : Ac) : doN f c a ≤ c + 1 := by
  unfold doN
  split
  · split <;> omega
  · split
    · omega
    · split <;> omega
theorem MOk.mono {J : DJ} {M : Md} {N N' : Nat} (h : MOk J M N) (hN : N ≤ N') : MOk J M N' := by
  have hm : N * 65536 ≤ N' * 65536 := Nat.mul_le_mul_right _ hN
  exact ⟨h.r0, h.r1, Nat.le_trans h.ln hN, Nat.le_trans h.sn hN, by have := h.kc; omega, fun n => Nat.le_trans (h.sl n) hm, fun n => Nat.le_trans (h.ll n) hm, fun a ha => ⟨(h.pe a ha).1, (h.pe a ha).2.1, Nat.le_trans (h.pe a ha).2.2 hm⟩⟩
theorem MOk.perform {J J' : DJ} {M : Md} {N : Nat} {a : Ac} (h : MOk J M N) (hk : a.k ≤ 2) (hn : a.n.length ≤ 24) (ha : a.p + a.b.length ≤ (N + 1) * 65536) (hJ : J'.kc = J.kc + 1) : MOk J' (M.perform a) (N + 1) := by
  have g := h.mono (Nat.le_succ N)
  refine ⟨h.r0, h.r1, ?_, ?_, ?_, doF_len g.sl ha, g.ll, ?_⟩
  · show M.lastN + (M.pend ++ [a]).length ≤ N + 1
    have := h.ln; simp; omega
  · exact Nat.le_trans (doN_le _ _ _) (by have := h.sn; omega)
  · show J'.kc + (M.pend ++ [a]).length ≤ 2 * (N + 1)
    have := h.kc; simp; omega
  · intro t ht
    rcases List.mem_append.1 ht with h' | h'
    · exact g.pe t h'
    · rw [List.mem_singleton.1 h']; exact ⟨hk, hn, ha⟩

/-- What a call leaves of a disk. -/
def RS (w w' : World) (g : Nat → Tg) (i : Nat) (J : DJ) (M' : Md) (N : Nat) : Prop :=
  ∃ g' J', DS w' g' i J' M' ∧ MOk J' M' N ∧ St w w' g g' (fun t => t.of i) ∧ J'.D = J.D
theorem RS.same {w w' : World} {g : Nat → Tg} {i : Nat} {J : DJ} {M : Md} {N : Nat} (h : DS w g i J M) (ok : MOk J M N) (hb : Below w.heap.size w w') : RS w w' g i J M (N + 1) :=
  ⟨g, J, h.below hb, ok.mono (Nat.le_succ N), St.ofBelow g _ hb, rfl⟩
theorem RS.of {w w1 w' : World} {g g' : Nat → Tg} {i : Nat} {J J' : DJ} {M : Md} {N : Nat} {a : Ac} (hb : Below w.heap.size w w1) (ok : MOk J M N) (hk : a.k ≤ 2) (hn : a.n.length ≤ 24) (ha : a.p + a.b.length ≤ (N + 1) * 65536) (hd : Hid (DS w' g' i J' (M.perform a))) (hs : Hid (St w1 w' g g' (fun t => t.of i))) (hj : Hid (J'.D = J.D ∧ J'.kc = J.kc + 1)) : RS w w' g i J (M.perform a) (N + 1) :=
  ⟨g', J', unhide hd, ok.perform hk hn ha (unhide hj).2, (St.ofBelow g _ hb).trans (unhide hs), (unhide hj).1⟩

set_option maxHeartbeats 1000000 in
theorem there_any (g : Nat → Tg) (i : Nat) (J : DJ) (M : Md) (n : Nm) (w : World) (h : DS w g i J M) (hn : n.length ≤ maxLen) :
    Calls Try.prog 33 #[.pointer (some ⟨J.D, 0, none⟩), .string (str n)] w fun e w' => e = .returned (.int .i64 (M.thereE n)) ∧ w' = w := by
  have c2 := h.c2
  cases hb : isName n with
  | false =>
    have HV : Hid (M.thereE n = 6) := by show _ = _; simp [Md.thereE, hb]
    have HR : Hid ((6 : Int) = if isName n then 0 else 6) := by show _ = _; simp [hb]
    clear hb
    go_enter Try.func33, Try.ntmps33
    go_wp2_with fail
    refine (named_any J.D J.S n 6 w c2 hn HR).mono ?_
    rintro e w' ⟨rfl, rfl⟩
    go_wp2
    go_ret
    exact ⟨by rw [unhide HV]; rfl, rfl⟩
  | true =>
    have HR : Hid ((0 : Int) = if isName n then 0 else 6) := by show _ = _; simp [hb]
    obtain ⟨x, c, _, _, look⟩ := h.fs.at n hn
    have hl1 := (look w rfl).2
    clear look
    cases hs : (M.seen n).isSome with
    | true =>
      rw [hs] at hl1
      have HV : Hid (M.thereE n = 0) := by show _ = _; simp [Md.thereE, hb, hs]
      clear hb hs
      go_enter Try.func33, Try.ntmps33
      go_wp2_with fail
      refine (named_any J.D J.S n 0 w c2 hn HR).mono ?_
      rintro e w' ⟨rfl, rfl⟩
      go_wp2
      go_ret
      exact ⟨by rw [unhide HV]; rfl, rfl⟩
    | false =>
      rw [hs] at hl1
      have HV : Hid (M.thereE n = 20) := by show _ = _; simp [Md.thereE, hb, hs]
      clear hb hs
      go_enter Try.func33, Try.ntmps33
      go_wp2_with fail
      refine (named_any J.D J.S n 0 w c2 hn HR).mono ?_
      rintro e w' ⟨rfl, rfl⟩
      go_wp2
      go_ret
      exact ⟨by rw [unhide HV]; rfl, rfl⟩
theorem thereE_cases (M : Md) (n : Nm) : (M.thereE n = 0 ∧ isName n = true ∧ (M.seen n).isSome = true) ∨ M.thereE n = 20 ∨ M.thereE n = 6 := by
  unfold Md.thereE
  cases isName n <;> cases (M.seen n).isSome <;> simp

set_option maxRecDepth 20000 in
set_option maxHeartbeats 2000000 in
theorem write_any (g : Nat → Tg) (i : Nat) (J : DJ) (M : Md) (N : Nat) (n : Nm) (x : Option Addr) (c : Nat) (b : List UInt8) (w : World) (h : DS w g i J M) (ok : MOk J M N) (hN : N ≤ 1400) (hn : n.length ≤ maxLen) (hb : Bs w x c b) (hbl : b.length ≤ 65536) :
    Calls Try.prog 23 #[.pointer (some ⟨J.D, 0, none⟩), .string (str n), .slice x b.length c] w fun e w' => e = .returned (.int .i64 (M.writeE n b.length)) ∧ RS w w' g i J (M.write n b) (N + 1) := by
  have c2 := h.c2
  have hsl : (fget M.seen n).length ≤ 91750400 := by have := ok.sl n; omega
  have hseenN : M.seenN ≤ 1000000000 := by have := ok.sn; omega
  have hpl : M.pend.length ≤ 1000000 := by have := ok.ln; omega
  have hkc : J.kc ≤ 1000000 := by have := ok.kc; omega
  cases hnb : isName n with
  | false =>
    have HV : Hid (M.writeE n b.length = 6 ∧ M.write n b = M) := by show _ ∧ _; simp [Md.write, Md.writeE, hnb]
    have HR : Hid ((6 : Int) = if isName n then 0 else 6) := by show _ = _; simp [hnb]
    clear hnb
    go_enter Try.func23, Try.ntmps23
    go_wp2_with fail
    refine (named_any J.D J.S n 6 w c2 hn HR).mono ?_
    rintro e w' ⟨rfl, rfl⟩
    go_wp2
    go_ret
    exact ⟨by rw [(unhide HV).1]; rfl, by rw [(unhide HV).2]; exact RS.same h ok (Below.refl _ _)⟩
  | true =>
    have HR : Hid ((0 : Int) = if isName n then 0 else 6) := by show _ = _; simp [hnb]
    have hn24 := isName_le hnb
    have hn1 : n.length ≤ 1000 := by omega
    cases hrm : M.room? n b.length with
    | false =>
      have HV : Hid (M.writeE n b.length = 7 ∧ M.write n b = M) := by show _ ∧ _; simp [Md.write, Md.writeE, hnb, hrm]
      have HM := hide hrm
      clear hnb hrm
      go_enter Try.func23, Try.ntmps23
      go_wp2_with fail
      refine (named_any J.D J.S n 0 w c2 hn HR).mono ?_
      rintro e w' ⟨rfl, rfl⟩
      go_wp2_with fail
      refine (room_any g i J M n b.length _ _ h rfl hn1 (by omega) (by omega) hseenN).mono ?_
      rintro e w1 ⟨rfl, hb1⟩
      rw [unhide HM]
      go_wp2
      go_ret
      exact ⟨by rw [(unhide HV).1]; rfl, by rw [(unhide HV).2]; exact RS.same h ok hb1⟩
    | true =>
      have HV : Hid (M.writeE n b.length = 0 ∧ M.write n b = M.perform ⟨0, n, (fget M.seen n).length, b⟩) := by show _ ∧ _; simp [Md.write, Md.writeE, hnb, hrm]
      have HM := hide hrm
      clear hnb hrm
      go_enter Try.func23, Try.ntmps23
      go_wp2_with fail
      refine (named_any J.D J.S n 0 w c2 hn HR).mono ?_
      rintro e w' ⟨rfl, rfl⟩
      go_wp2_with fail
      refine (room_any g i J M n b.length _ _ h rfl hn1 (by omega) (by omega) hseenN).mono ?_
      rintro e w1 ⟨rfl, hb1⟩
      rw [unhide HM]
      have h1 := h.below hb1
      have c2' := h1.c2
      obtain ⟨y, cy, _, _, look⟩ := h1.fs.at n hn
      have hl1 := (look w1 rfl).1
      have hbs := hb.below hb1 (Nat.le_refl _)
      clear look
      go_wp2_with fail
      refine (perform_any g i J M ⟨0, n, (fget M.seen n).length, b⟩ 0 _ x c w1 h1 rfl (by show (0 : Nat) ≤ 2; omega) hn1 rfl hbs (by show (fget M.seen n).length ≤ _; omega) (Nat.le_trans (doF_len (B := 100000000) (fun m => by have := ok.sl m; omega) (by show (fget M.seen n).length + b.length ≤ _; omega) n) (by omega)) (by show (fget M.seen n).length ≤ _; omega) (by show b.length ≤ _; omega) hseenN hpl hkc).mono ?_
      rintro e w2 ⟨rfl, g2, J2, HD, HS, HJ⟩
      go_wp2
      go_ret
      exact ⟨by rw [(unhide HV).1]; rfl, by rw [(unhide HV).2]; exact RS.of hb1 ok (by show (0 : Nat) ≤ 2; omega) hn24 (by show (fget M.seen n).length + b.length ≤ _; have := ok.sl n; omega) HD HS HJ⟩
#print axioms write_any
end Go.Proofs.Ytkhpjlgbiicdcaa
