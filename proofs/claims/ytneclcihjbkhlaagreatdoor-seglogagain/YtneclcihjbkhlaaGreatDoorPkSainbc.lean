/-
  seglog's statements: begun; awake.; seglog's statements: awake.; seglog's statements: a row of calls; short; rec.; slices.Clone of bytes of any length.; seglog's statements: rec. (genSdB.py)
-/
import Derived.Test.YtneclcihjbkhlaaGreatDoorPkSainba
import Derived.Lib.SlBytesConst
import Derived.Lib.SmallJoins
import Derived.Test.YtneclcihjbkhlaaGreatDoorPkSainad
import Derived.Deep.RegionHeld3
section
set_option linter.unusedVariables false
set_option maxRecDepth 1000000
namespace Go.Proofs.YtneclcihjbkhlaaGreatDoor
open Go.RowKit Go.Maps

/-- A new log over a new disk. -/
def BgR (w0 w' : World) (D B : Nat) (z : Int) : Prop := ∃ g' P pc l, LgS w' g' B D P pc l [] ∧ DK w' g' 0 D (Md.new z) 302 ∧ LW w0 w' g'
set_option maxHeartbeats 2000000 in
theorem begun5 (w0 : World) (g : Nat → Tg) (z : Int) (w : World) (hE : EnvS w0) (hL : LW w0 w g) (h0 : 0 ≤ z) (h1 : z ≤ 16777216) :
    Calls Tryz.prog 29 #[.int .i64 z] w fun e w' => ∃ D B, e = .returned (.tuple #[.pointer (some ⟨D, 0, none⟩), .pointer (some ⟨B, 0, none⟩), .bool true]) ∧ Hid (BgR w0 w' D B z) := by
  have HNE := hide (new_k w0 g 0 z w h0 h1 hL)
  have HEE := hide hE
  clear hE hL
  go_enter Tryz.func29, Tryz.ntmps29
  go_wp2_with fail
  refine (unhide HNE).mono ?_
  rintro e w1 ⟨D, g1, rfl, hd1, hL1, _, _⟩
  have HOP := hide (open_new w0 g1 D z 0 w1 (unhide HEE) hL1 hd1 (by omega))
  have HL1 := hide hL1
  clear HNE hd1 hL1
  go_wp2_with fail
  refine (unhide HOP).mono ?_
  rintro e w2 ⟨B, rfl, HO⟩
  have HF : Hid (BgR w0 w2 D B z) := by
    obtain ⟨g2, P, pc, l, h1, h2, h3⟩ := unhide HO
    exact ⟨g2, P, pc, l, h1, h2.monoN (by omega), (unhide HL1).st2 h3 x01o⟩
  clear HOP HO
  go_wp2_with fail
  go_ret3
  exact ⟨D, B, rfl, HF⟩
#print axioms begun5
/-- A disk that has no file but one. -/
structure Only (M : Md) (nm : Nm) : Prop where
  seen : ∀ m, m ≠ nm → M.seen m = none
  last : ∀ m, m ≠ nm → M.last m = none
  pend : ∀ a ∈ M.pend, a.n = nm
theorem Only.new (z : Int) (nm : Nm) : Only (Md.new z) nm := ⟨fun _ _ => rfl, fun _ _ => rfl, fun a ha => by simp [Md.new] at ha⟩
theorem Only.write {M : Md} {nm : Nm} (h : Only M nm) (b : List UInt8) : Only (M.write nm b) nm := by
  unfold Md.write
  split
  · refine ⟨fun m hm => ?_, fun m hm => h.last m hm, fun a ha => ?_⟩
    · rw [perform_seen, doF_other hm]; exact h.seen m hm
    · rcases List.mem_append.1 (show a ∈ M.pend ++ [_] from ha) with h1 | h1
      · exact h.pend a h1
      · rw [List.mem_singleton.1 h1]
  · exact h
theorem Only.sync {M : Md} {nm : Nm} (h : Only M nm) : Only (M.sync nm) nm := by
  refine ⟨fun m hm => by rw [sync_seen]; exact h.seen m hm, fun m hm => ?_, fun a ha => ?_⟩
  · unfold Md.sync
    split
    · show ((M.pend.filter (isN nm)).foldl Md.lasts M).last m = none
      rw [lasts_last, fold_other _ (fun a ha e => hm (by rw [← e]; exact h.pend a (List.mem_filter.1 ha).1))]
      exact h.last m hm
    · exact h.last m hm
  · unfold Md.sync at ha
    split at ha
    · exact h.pend a (List.mem_filter.1 (show a ∈ M.pend.filter _ from ha)).1
    · exact h.pend a ha
theorem kept_mem {α : Type} : ∀ (l : List α) (k : List Bool) (a : α), a ∈ keptL l k → a ∈ l
  | [], k, a, h => by simp [keptL] at h
  | x :: r, k, a, h => by
    rcases List.mem_append.1 (show a ∈ (if k.headD false then [x] else []) ++ keptL r k.tail from h) with e | e
    · split at e
      · rw [List.mem_singleton.1 e]; exact List.mem_cons_self
      · cases e
    · exact List.mem_cons_of_mem _ (kept_mem r k.tail a e)
theorem tornL_n {l : List Ac} {z : Int} {nm : Nm} (h : ∀ a ∈ l, a.n = nm) : ∀ a ∈ tornLast l z, a.n = nm := fun a ha => by
  unfold tornLast at ha
  rcases List.mem_append.1 ha with h1 | h1
  · exact h a (List.dropLast_subset l h1)
  · cases hl : l.getLast? with
    | none => rw [hl] at h1; simp at h1
    | some x =>
      rw [hl] at h1
      simp at h1
      have e : (x.torn z).n = x.n := by unfold Ac.torn; split <;> rfl
      rw [h1, e]
      exact h x (List.mem_of_getLast? hl)
theorem Only.crash {M : Md} {nm : Nm} (h : Only M nm) (kl : List Bool) (z : Int) : ∀ m, m ≠ nm → (M.crash kl z).seen m = none := fun m hm => by
  rw [crash_seen, crash_last, fold_other _ (fun a ha e => hm (by rw [← e]; exact tornL_n (fun b hb => h.pend b (kept_mem _ _ b hb)) a ha))]
  exact h.last m hm
theorem nms_one {f : Files} {nm : Nm} (h : ∀ m, m ≠ nm → f m = none) (h1 : f nm ≠ none) {L : List Nm} (hl : Nms f L) : L = [nm] := by
  have hm : ∀ m, m ∈ L ↔ m = nm := fun m => by
    rw [hl.mem]
    constructor
    · intro h2
      apply Classical.byContradiction
      intro h3
      exact h2 (h m h3)
    · rintro rfl; exact h1
  have hnd := hl.nd
  cases L with
  | nil => have := (hm nm).2 rfl; cases this
  | cons a r =>
    have ha : a = nm := (hm a).1 (by simp)
    subst ha
    cases r with
    | nil => rfl
    | cons b r =>
      have hb : b = a := (hm b).1 (by simp)
      subst hb
      simp at hnd
theorem nmS_one : nmS 1 = [115, 101, 103, 46, 48, 48, 48, 48, 48, 48, 48, 48, 48, 48, 48, 48, 48, 48, 48, 48, 48, 48, 49] := by
  unfold nmS padS
  rw [Lib.decDigits_one (by omega)]
  rfl
#print axioms Only.crash
/-! ### awake -/
def aF1 : List UInt8 := frmN 1 [97]
def aF2 : List UInt8 := frmN 2 [98]
def aF3 : List UInt8 := frmN 3 [99]
def aM1 : Md := (Md.new 1000).write (nmS 1) aF1
def aM2 : Md := aM1.sync (nmS 1)
def aM3 : Md := aM2.write (nmS 1) aF2
def aM4 : Md := aM3.write (nmS 1) aF3
def aM5 : Md := aM4.crash [false, true] 0
def aS1 : List Sg := [⟨1, [[97]], 9⟩]
def aS2 : List Sg := [⟨1, [[97], [98]], 18⟩]
def aS3 : List Sg := [⟨1, [[97], [98], [99]], 27⟩]
def aB5 : List UInt8 := aF1 ++ [0, 0, 0, 0, 0, 0, 0, 0, 0] ++ aF3
theorem aF_len : aF1.length = 9 ∧ aF2.length = 9 ∧ aF3.length = 9 := ⟨by kernel_rfl, by kernel_rfl, by kernel_rfl⟩
theorem a_w1 : (Md.new 1000).writeE (nmS 1) aF1.length = 0 := by rw [nmS_one]; kernel_rfl
theorem a_w2 : aM2.writeE (nmS 1) aF2.length = 0 := by unfold aM2 aM1; rw [nmS_one]; kernel_rfl
theorem a_w3 : aM3.writeE (nmS 1) aF3.length = 0 := by unfold aM3 aM2 aM1; rw [nmS_one]; kernel_rfl
theorem a_t1 : aM1.thereE (nmS 1) = 0 := by unfold aM1; rw [nmS_one]; kernel_rfl
theorem a_t5 : aM5.thereE (nmS 1) = 0 := by unfold aM5 aM4 aM3 aM2 aM1; rw [nmS_one]; kernel_rfl
theorem a_r5 : aM5.readB (nmS 1) = aB5 := by unfold aM5 aM4 aM3 aM2 aM1; rw [nmS_one]; kernel_rfl
theorem a_rd : (rdS 1 aB5).first = 1 ∧ (rdS 1 aB5).recs = [[97]] ∧ (rdS 1 aB5).size = 9 := ⟨by kernel_rfl, by kernel_rfl, by kernel_rfl⟩
theorem a_c5 : aM5.cutE (nmS 1) 9 = 0 := by unfold aM5 aM4 aM3 aM2 aM1; rw [nmS_one]; kernel_rfl
#print axioms a_r5
end Go.Proofs.YtneclcihjbkhlaaGreatDoor
end
section
set_option linter.unusedVariables false
set_option maxRecDepth 1000000
namespace Go.Proofs.YtneclcihjbkhlaaGreatDoor
open Go.RowKit Go.Maps

/-- A log over its disk, as a statement sees it. -/
def AwS (w0 w : World) (B D : Nat) (M : Md) (N : Nat) (S : List Sg) : Prop := ∃ g P pc l, LgS w g B D P pc l S ∧ DK w g 0 D M N ∧ LW w0 w g
theorem append_lit (w0 w : World) (B D : Nat) (M M' : Md) (N n : Nat) (S S' : List Sg) (z : Int) (u : UInt8) (m : Nat × Nat) (hE : EnvS w0) (h : AwS w0 w B D M N S) (ok : SOk S) (wf : Wf S) (hN : N ≤ 1300) (e : z = (u.toNat : Int))
    (hn : nxS S = n) (he : apE M S [u] = 0) (hsl : S.length + 1 ≤ 1000000) (hsr : (S.flatMap (·.recs)).length + 1 ≤ 1000000) (hsz : bySz S + 70000 ≤ 9000000000000000000) (hsy : fullS S → syE M S = 0)
    (hM' : (apD M S).write (nmS (apN S)) (frmN (nxS S) [u]) = M') (hS' : apS S [u] = S') :
    Calls Tryz.prog 22 #[.pointer (some ⟨B, 0, none⟩), .slice (some ⟨w.heap.size, 0, none⟩) 1 1] (w.alloc (.cells #[.int .u8 z] 5 m)) fun e w' => e = .returned (.tuple #[.int .i64 (n : Int), .int .i64 0]) ∧ Hid (AwS w0 w' B D M' (N + 2) S') := by
  obtain ⟨g, P, pc, l, h1, h2, h3⟩ := h
  have ba : Below w.heap.size w (w.alloc (.cells #[.int .u8 z] 5 m)) := (Below.refl _ _).alloc (Nat.le_refl _) _
  have hsz1 : (w.alloc (.cells #[.int .u8 z] 5 m)).heap.size = w.heap.size + 1 := Array.size_push _
  have hx := lit_one w m z u e
  generalize hV : w.alloc (.cells #[.int .u8 z] 5 m) = V at *
  obtain ⟨g1, hg1⟩ : ∃ g1 : Nat → Tg, g1 = fun b => if b < w.heap.size then g b else .o := ⟨_, rfl⟩
  have st1 : St w V g g1 (fun _ => False) := (St.ofBelow g _ ba).tag (fun k hk => by rw [hg1]; exact if_pos hk)
  have hgo : g1 w.heap.size = .o := by rw [hg1]; exact if_neg (Nat.lt_irrefl _)
  have hL1 := h3.st2 st1 (fun e => e)
  refine (append5 w0 g1 B D P pc l S M N (some ⟨w.heap.size, 0, none⟩) 1 [u] V hE hL1 (h1.keep st1 (fun t _ e => e)) (h2.keep1 (st1.mono (fun t e => e.elim))) ok wf hN hx (fun k hk => ?_) (by simp) hsl hsr hsz hsy).mono ?_
  · simp [blk] at hk
    subst hk
    exact ⟨by omega, by rw [hgo]; exact x01o⟩
  · rintro e w' ⟨n', E, rfl, hE', hr⟩
    rw [he] at hE'
    subst hE'
    rcases hr with ⟨_, hn', hr⟩ | ⟨h, _⟩
    · obtain ⟨g', P', pc', l', a, b, c⟩ := hr
      rw [hM'] at b
      rw [hS'] at a
      exact ⟨by rw [hn', hn], g', P', pc', l', a, b, hL1.st2 c x01o⟩
    · exact absurd rfl h
theorem sync_lit (w0 w : World) (B D : Nat) (M M' : Md) (N : Nat) (S : List Sg) (hE : EnvS w0) (h : AwS w0 w B D M N S) (ok : SOk S) (hN : N ≤ 1400) (he : syE M S = 0) (hM' : syM M S = M') :
    Calls Tryz.prog 15 #[.pointer (some ⟨B, 0, none⟩)] w fun e w' => e = .returned (.int .i64 0) ∧ Hid (AwS w0 w' B D M' (N + 1) S) := by
  obtain ⟨g, P, pc, l, h1, h2, h3⟩ := h
  refine (sync5 w0 g B D P pc l S M N w hE h3 h1 h2 ok hN).mono ?_
  rintro e w' ⟨rfl, g', P', pc', l', a, b, c⟩
  rw [hM'] at b
  exact ⟨by rw [he], g', P', pc', l', a, b, h3.st2 c x01o⟩
theorem crash_lit (w0 w : World) (B D : Nat) (M : Md) (N : Nat) (S : List Sg) (m : Nat × Nat) (h : AwS w0 w B D M N S) (hN : N ≤ 1400) :
    Calls Tryz.prog 19 #[.pointer (some ⟨D, 0, none⟩), .slice (some ⟨w.heap.size, 0, none⟩) 2 2, .int .i64 0] (w.alloc (.cells #[.bool false, .bool true] 4 m)) fun e w' => e = .returned (.int .i64 0) ∧ Hid (∃ g, DK w' g 0 D (M.crash [false, true] 0) (N + 1) ∧ LW w0 w' g) := by
  obtain ⟨g, P, pc, l, h1, h2, h3⟩ := h
  have ba : Below w.heap.size w (w.alloc (.cells #[.bool false, .bool true] 4 m)) := (Below.refl _ _).alloc (Nat.le_refl _) _
  refine (crash_k g 0 D M N (some ⟨w.heap.size, 0, none⟩) [false, true] 2 2 0 _ (h2.below ba) hN (hide rfl) (lit_ft w m) (by unfold maxLen; omega)).mono ?_
  rintro e w' ⟨rfl, g', d, s⟩
  exact ⟨rfl, g', d, (h3.bel ba).st s⟩
theorem a_only : Only aM4 (nmS 1) := (((Only.new 1000 (nmS 1)).write aF1).sync.write aF2).write aF3
theorem a_here : aM5.seen (nmS 1) ≠ none := by
  have h : (aM5.seen (nmS 1)).isSome = true := by unfold aM5 aM4 aM3 aM2 aM1; rw [nmS_one]; kernel_rfl
  intro e
  rw [e] at h
  cases h
theorem a_num : [nmS 1].filterMap numM = [1] := by
  simp [numM_nm 1 (by omega) (by omega)]
theorem a_ga : ga aM5 [1] = (aM5, [rdS 1 aB5], decide ((rdS 1 aB5).size = aB5.length)) := by
  show gaT (aM5, [], true) 1 = _
  have e : gaD (aM5, [], true) 1 = (aM5, []) := by
    unfold gaD
    rw [if_neg]
    rintro (h | h)
    · exact h rfl
    · cases h
  unfold gaT
  rw [e, a_r5]
  rfl
theorem sg_eq {s : Sg} {f z : Nat} {r : List (List UInt8)} (h1 : s.first = f) (h2 : s.recs = r) (h3 : s.size = z) : s = ⟨f, r, z⟩ := by
  cases s
  simp at h1 h2 h3
  subst h1 h2 h3
  rfl
theorem a_s5 : rdS 1 aB5 = ⟨1, [[97]], 9⟩ := sg_eq a_rd.1 a_rd.2.1 a_rd.2.2
theorem sok_aS1 : SOk aS1 := ⟨by simp [aS1], by simp [aS1, Sg.next], by simp [aS1, bySz], by simp [aS1], by simp [aS1]⟩
theorem sok_aS2 : SOk aS2 := ⟨by simp [aS2], by simp [aS2, Sg.next], by simp [aS2, bySz], by simp [aS2], by simp [aS2]⟩
theorem wf_one {s : Sg} (h1 : 1 ≤ s.first) (h2 : s.size = flN s.first s.recs) : Wf [s] := ⟨fun i a b ha hb => by simp at hb, fun a ha => by rw [List.mem_singleton.1 ha]; exact h1, fun a ha => by rw [List.mem_singleton.1 ha]; exact h2⟩
theorem wf_nil : Wf [] := ⟨fun i a b ha hb => by simp at hb, fun a ha => (by cases ha), fun a ha => (by cases ha)⟩
theorem wf_aS1 : Wf aS1 := wf_one (by show 1 ≤ 1; omega) (by kernel_rfl)
theorem wf_aS2 : Wf aS2 := wf_one (by show 1 ≤ 1; omega) (by kernel_rfl)
theorem a_e1 : apE (Md.new 1000) [] [97] = 0 := by
  unfold apE
  have k1 : ¬ nxS [] = 9223372036854775807 := by show ¬ 1 = 9223372036854775807; omega
  have k2 : (form (nxS []) ++ [97]).length = (form (nxS []) ++ [97]).length := rfl
  have k3 : (form (nxS []) ++ [97]).length < 100 := by
    have h : decide ((form (nxS []) ++ [(97 : UInt8)]).length < 100) = true := by kernel_rfl
    exact of_decide_eq_true h
  have k4 : ¬ 65536 < (form (nxS []) ++ [97]).length := by omega
  rw [if_neg k1, if_neg k4]
  exact a_w1
theorem a_e2 : apE aM2 aS1 [98] = 0 := by
  unfold apE
  have k1 : ¬ nxS aS1 = 9223372036854775807 := by show ¬ 2 = 9223372036854775807; omega
  have k2 : (form (nxS aS1) ++ [98]).length = (form (nxS aS1) ++ [98]).length := rfl
  have k3 : (form (nxS aS1) ++ [98]).length < 100 := by
    have h : decide ((form (nxS aS1) ++ [(98 : UInt8)]).length < 100) = true := by kernel_rfl
    exact of_decide_eq_true h
  have k4 : ¬ 65536 < (form (nxS aS1) ++ [98]).length := by omega
  rw [if_neg k1, if_neg k4]
  exact a_w2
theorem a_e3 : apE aM3 aS2 [99] = 0 := by
  unfold apE
  have k1 : ¬ nxS aS2 = 9223372036854775807 := by show ¬ 3 = 9223372036854775807; omega
  have k2 : (form (nxS aS2) ++ [99]).length = (form (nxS aS2) ++ [99]).length := rfl
  have k3 : (form (nxS aS2) ++ [99]).length < 100 := by
    have h : decide ((form (nxS aS2) ++ [(99 : UInt8)]).length < 100) = true := by kernel_rfl
    exact of_decide_eq_true h
  have k4 : ¬ 65536 < (form (nxS aS2) ++ [99]).length := by omega
  rw [if_neg k1, if_neg k4]
  exact a_w3
theorem a_p1 : apS [] [97] = aS1 := by kernel_rfl
theorem a_p2 : apS aS1 [98] = aS2 := by kernel_rfl
theorem a_p3 : apS aS2 [99] = aS3 := by kernel_rfl
theorem aw_open (w0 w : World) (D N : Nat) (hE : EnvS w0) (h : ∃ g, DK w g 0 D aM5 N ∧ LW w0 w g) (hN : N ≤ 1000) :
    Calls Tryz.prog 13 #[.pointer (some ⟨D, 0, none⟩)] w fun e w' => ∃ B, e = .returned (.tuple #[.pointer (some ⟨B, 0, none⟩), .int .i64 0]) ∧ Hid (∃ M', AwS w0 w' B D M' (N + 302) aS1) := by
  obtain ⟨g, h2, h3⟩ := h
  have hon := a_only.crash [false, true] 0
  have hL : ∀ L, Nms aM5.seen L → L.filterMap numM = [1] := fun L hl => by rw [nms_one hon a_here hl]; exact a_num
  refine (open5 w0 g D aM5 N w hE h3 h2 hN (fun n hn => ?_) (fun L hl => ?_)).mono ?_
  · have : n = nmS 1 := Classical.byContradiction (fun e => hn (hon n e))
    rw [this, nmS_one]
    simp
  · rw [hL L hl]
    refine ⟨by simp, fun i n hi => ?_, ?_, ?_⟩
    · cases i with
      | zero =>
        simp at hi
        subst hi
        have e : gaD (ga aM5 (List.take 0 [1])) 1 = (aM5, []) := by
          show gaD (aM5, [], true) 1 = _
          unfold gaD
          rw [if_neg]
          rintro (h | h)
          · exact h rfl
          · cases h
        refine ⟨sok_nil, fun s hs => (by cases hs), fun i j s t hij hs => by simp [ga] at hs, by omega, ?_, ?_⟩
        · rw [e]; exact a_t5
        · rw [e]
          show (aM5.readB (nmS 1)).length ≤ _
          rw [a_r5]
          have : aB5.length = 27 := by kernel_rfl
          omega
      | succ i => simp at hi
    · rw [a_ga]
      show SOk [rdS 1 aB5]
      rw [a_s5]
      exact sok_aS1
    · rw [a_ga]
      show aM5.cutE (nmS (rdS 1 aB5).first) ((rdS 1 aB5).size : Int) = 0
      rw [a_s5]
      exact a_c5
  · rintro e w' ⟨B, rfl, L, g', P, pc, l, hl, a, b, c⟩
    rw [hL L hl] at a b
    rw [a_ga] at a
    refine ⟨B, rfl, _, g', P, pc, l, ?_, b, h3.st2 c x01o⟩
    have : [rdS 1 aB5] = aS1 := by rw [a_s5]; rfl
    rw [← this]
    exact a
#print axioms aw_open
set_option maxHeartbeats 4000000 in
theorem awake5 (w0 : World) (g : Nat → Tg) (w : World) (hE : EnvS w0) (hL : LW w0 w g) : Calls Tryz.prog 10 #[] w fun e w' => e = .returned (.bool true) ∧ Hid (Below w0.heap.size w0 w') := by
  have kc := fun (w : World) (C : Array Value) (n c : Nat) => Lib.run_convert_bytes_const (P := Tryz.prog) w 39 5 C n c Tryz.underlying39 Tryz.underlying5
  have HBG := hide (begun5 w0 g 1000 w hE hL (by omega) (by omega))
  have HE := hide hE
  clear hE hL
  go_enter Tryz.func10, Tryz.ntmps10
  go_wp2_with fail
  refine (unhide HBG).mono ?_
  rintro e w1 ⟨D, B, rfl, HB1⟩
  have H1 : Hid (AwS w0 w1 B D (Md.new 1000) 302 []) := unhide HB1
  clear HBG HB1
  go_wp2_with fail
  refine (append_lit w0 w1 B D (Md.new 1000) aM1 302 1 [] aS1 97 97 _ (unhide HE) (unhide H1) sok_nil wf_nil (by omega) rfl rfl a_e1 (by simp) (by simp) (by simp [bySz]) (fun _ => rfl) rfl a_p1).mono ?_
  rintro e w2 ⟨rfl, H2⟩
  clear H1
  go_wp2_with fail
  refine (sync_lit w0 w2 B D aM1 aM2 304 aS1 (unhide HE) (unhide H2) sok_aS1 (by omega) a_t1 rfl).mono ?_
  rintro e w3 ⟨rfl, H3⟩
  clear H2
  go_wp2_with fail
  refine (append_lit w0 w3 B D aM2 aM3 305 2 aS1 aS2 98 98 _ (unhide HE) (unhide H3) sok_aS1 wf_aS1 (by omega) rfl rfl a_e2 (by simp [aS1]) (by simp [aS1]) (by simp [aS1, bySz]) (fun h => absurd (h _ rfl) (by simp)) rfl a_p2).mono ?_
  rintro e w4 ⟨rfl, H4⟩
  clear H3
  go_wp2_with fail
  refine (append_lit w0 w4 B D aM3 aM4 307 3 aS2 aS3 99 99 _ (unhide HE) (unhide H4) sok_aS2 wf_aS2 (by omega) rfl rfl a_e3 (by simp [aS2]) (by simp [aS2]) (by simp [aS2, bySz]) (fun h => absurd (h _ rfl) (by simp)) rfl a_p3).mono ?_
  rintro e w5 ⟨rfl, H5⟩
  clear H4
  go_wp2_with fail
  refine (crash_lit w0 w5 B D aM4 309 aS3 _ (unhide H5) (by omega)).mono ?_
  rintro e w6 ⟨rfl, H6⟩
  clear H5
  go_wp2_with fail
  refine (aw_open w0 w6 D 310 (unhide HE) (unhide H6) (by omega)).mono ?_
  rintro e w7 ⟨C, rfl, H7⟩
  obtain ⟨M', g7, P7, pc7, l7, a7, b7, c7⟩ := unhide H7
  have HRD := hide (read5 g7 C D P7 pc7 l7 aS1 1 w7 a7 sok_aS1 (by omega) (by omega))
  have HA7 := hide a7
  have HC7 := hide c7
  clear H6 H7 a7 b7 c7 kc
  go_wp2_with fail
  refine (unhide HRD).mono ?_
  rintro e w8 ⟨a, c, vs, rfl, HO, HP, HB⟩
  have hfr : frS aS1 1 = [[97]] := by kernel_rfl
  rw [hfr] at HP
  have hp := unhide HP
  have hlen : vs.length = 1 := hp.len
  obtain ⟨x, cx, hx, ox⟩ := hp.own 0 [97] rfl
  obtain ⟨G, rfl, _, hGl, _, hc⟩ := (unhide HO).some (by omega)
  have hc0 := hc 0 _ hx
  have hc1 : w8.cell? ⟨G, 0, none⟩ = some (.slice x 1 cx) := hc0
  have a8 := (unhide HA7).below (unhide HB)
  have HF := hide (first5 g7 C D P7 pc7 l7 aS1 w8 a8 sok_aS1)
  have HA8 := hide a8
  have HC8 : Hid (LW w0 w8 g7) := (unhide HC7).bel (unhide HB)
  have HX := hide ox
  rw [hlen]
  clear HRD HO HP HB hp hlen hc hc0 hx ox a8 HA7 HC7 hfr
  go_wp2_with fail
  refine (unhide HF).mono ?_
  rintro e w9 ⟨rfl, HB9⟩
  have a9 := (unhide HA8).below (unhide HB9)
  have HN := hide (next5 g7 C D P7 pc7 l7 aS1 w9 a9 sok_aS1)
  have HC9 : Hid (LW w0 w9 g7) := (unhide HC8).bel (unhide HB9)
  have hf1 : ((fsS aS1 : Nat) : Int) = 1 := rfl
  rw [hf1]
  clear a9 HF hf1
  go_wp2_with fail
  refine (unhide HN).mono ?_
  rintro e w10 ⟨rfl, HB10⟩
  have HC10 : Hid (LW w0 w10 g7) := (unhide HC9).bel (unhide HB10)
  have hb : Below w8.heap.size w8 w10 := (unhide HB9).trans ((unhide HB10).mono (unhide HB9).size)
  have hn1 : ((nxS aS1 : Nat) : Int) = 2 := rfl
  rw [hn1]
  have hcl : w10.cell? ⟨G, 0, none⟩ = some (.slice x 1 cx) := by rw [hb.cell hGl]; exact hc1
  have s1 := run_str w10 x 1 cx [97] ((unhide HX).below hb (Nat.le_refl _)).toBs.row rfl
  have t1 : str [97] = { data := #[97] } := rfl
  rw [t1] at s1
  clear HN hn1 hb HX hc1 HC8 HC9 HB9 HB10 HA8
  go_wp2
  go_ret
  exact ⟨rfl, (unhide HC10).below⟩
#print axioms awake5
end Go.Proofs.YtneclcihjbkhlaaGreatDoor
end
section
set_option linter.unusedVariables false
set_option maxRecDepth 1000000
namespace Go.Proofs.YtneclcihjbkhlaaGreatDoor
open Go.RowKit Go.Maps

/-- A call of a log, or a crash. -/
structure D5 where
  o : Int
  b : List UInt8
  s : Int
  n : Int
  k : List Bool
/-- Where its two rows lie. -/
structure A5 where
  x : Option Addr
  c : Nat
  y : Option Addr
  m : Nat
structure DV5 (w : World) (d : D5) (a : A5) : Prop where
  b : Bs w a.x a.c d.b
  k : BRow w a.y d.k
  kl : d.k.length ≤ maxLen
def DV5.cells (d : D5) (a : A5) : Array Value := #[.int .i64 d.o, .slice a.x d.b.length a.c, .int .i64 d.s, .int .i64 d.n, .slice a.y d.k.length a.m]
theorem DV5.below {w w' : World} {B : Nat} {d : D5} {a : A5} (h : DV5 w d a) (hb : Below B w w') (hB : w.heap.size ≤ B) : DV5 w' d a := ⟨h.b.below hb hB, h.k.below hb hB, h.kl⟩
/-- A row of calls. -/
structure DR5 (w : World) (p : Option Addr) (l : List D5) : Prop where
  mem : l ≠ [] → ∃ b off, p = some ⟨b, off, none⟩ ∧ ∀ t d, l[t]? = some d → ∃ a, DV5 w d a ∧ w.cell? ⟨b, off + t * 5, none⟩ = some (.int .i64 d.o) ∧ w.cell? ⟨b, off + t * 5 + 1, none⟩ = some (.slice a.x d.b.length a.c) ∧ w.cell? ⟨b, off + t * 5 + 2, none⟩ = some (.int .i64 d.s) ∧ w.cell? ⟨b, off + t * 5 + 3, none⟩ = some (.int .i64 d.n) ∧ w.cell? ⟨b, off + t * 5 + 4, none⟩ = some (.slice a.y d.k.length a.m)
  le : l.length ≤ maxLen
theorem DR5.below {w w' : World} {B : Nat} {p : Option Addr} {l : List D5} (h : DR5 w p l) (hb : Below B w w') (hB : w.heap.size ≤ B) : DR5 w' p l := by
  refine ⟨fun hne => ?_, h.le⟩
  obtain ⟨b, off, rfl, hc⟩ := h.mem hne
  refine ⟨b, off, rfl, fun t d hd => ?_⟩
  obtain ⟨a, h1, c0, c1, c2, c3, c4⟩ := hc t d hd
  have k : ∀ {q : Addr} {v : Value}, w.cell? q = some v → w'.cell? q = some v := fun {q v} e => by
    rw [hb.cell (Nat.lt_of_lt_of_le (World.block_lt_of_cell? w _ e) hB)]; exact e
  exact ⟨a, h1.below hb hB, k c0, k c1, k c2, k c3, k c4⟩
def cap5 (d : D5) : Nat := min d.b.length 131073
def sum5 (l : List D5) : Nat := (l.map cap5).sum
def shr5 (l : List D5) : Bool := decide (l.length ≤ 80) && decide (sum5 l ≤ 131072)
theorem sum5_take (l : List D5) (k : Nat) (d : D5) (h : l[k]? = some d) : sum5 (l.take (k + 1)) = sum5 (l.take k) + cap5 d := by
  unfold sum5
  rw [List.take_add_one, h]
  simp
theorem sum5_le (l : List D5) : sum5 l ≤ l.length * 131073 := by
  unfold sum5
  induction l with
  | nil => simp
  | cons d l ih => simp [cap5] at ih ⊢; omega
theorem cap5_le {l : List D5} {d : D5} (h : d ∈ l) : cap5 d ≤ sum5 l := by
  unfold sum5
  induction l with
  | nil => cases h
  | cons e l ih =>
    simp at h ⊢
    rcases h with rfl | h
    · omega
    · have := ih h; omega
theorem shr5_len {l : List D5} (h : shr5 l = true) : l.length ≤ 80 ∧ sum5 l ≤ 131072 ∧ ∀ d ∈ l, d.b.length ≤ 131072 ∧ cap5 d = d.b.length := by
  unfold shr5 at h
  simp at h
  refine ⟨h.1, h.2, fun d hd => ?_⟩
  have := cap5_le hd
  unfold cap5 at this ⊢
  omega
set_option maxRecDepth 20000 in
set_option maxHeartbeats 4000000 in
theorem short5 (p : Option Addr) (c : Nat) (l : List D5) (w : World) (h : DR5 w p l) :
    Calls Tryz.prog 9 #[.slice p l.length c] w fun e w' => e = .returned (.bool (shr5 l)) ∧ w' = w := by
  have hle := h.le
  unfold maxLen at hle
  go_enter Tryz.func9, Tryz.ntmps9
  go_wp2
  go_loopw [3, 4] (fun v i wr => ∃ k m : Nat, k ≤ l.length ∧ k ≤ 81 ∧ i = .int .i64 (k : Int) ∧ v = .int .i64 (m : Int) ∧ Hid (m = sum5 (l.take k)) ∧ wr = w) (fun _ i _ => l.length - (intOf i).toNat)
  case atStart => exact ⟨0, 0, Nat.zero_le _, Nat.zero_le _, rfl, rfl, rfl, rfl⟩
  case round =>
    obtain ⟨k, m, hk, hk2, rfl, rfl, HM, rfl⟩ := hrel
    have hm : m ≤ 40000000 := by
      have h1 := sum5_le (l.take k)
      rw [← unhide HM, List.length_take, Nat.min_eq_left hk] at h1
      omega
    by_cases hlt : k < l.length
    · by_cases hlt2 : k ≤ 80
      · obtain ⟨d, hd⟩ : ∃ d, l[k]? = some d := ⟨_, List.getElem?_eq_getElem hlt⟩
        obtain ⟨b, off, rfl, hc⟩ := h.mem (by intro e; subst e; simp at hd)
        obtain ⟨a, hv, -, c2, -, -, -⟩ := hc k d hd
        have hbl := hv.b.most
        unfold maxLen at hbl
        have e1 : (k : Int) < (l.length : Int) := by omega
        have e2 : (k : Int) ≤ 80 := by omega
        obtain ⟨q, hq⟩ : ∃ q : Nat, q = cap5 d := ⟨_, rfl⟩
        have e3 : (if 131073 < (d.b.length : Int) then 131073 else (d.b.length : Int)) = (q : Int) := by rw [hq]; unfold cap5; split <;> omega
        have HQ : Hid (m + q = sum5 (l.take (k + 1))) := by show _ = _; rw [sum5_take l k d hd, hq, unhide HM]
        have hq2 : q ≤ 131073 := by rw [hq]; unfold cap5; omega
        clear hq hc hd
        go_wp2
        go_roundw
        case rel => exact ⟨k + 1, m + q, by omega, by omega, by go_num, by go_num, HQ, trivial⟩
        case measure => simp [intOf]; omega
      · have e1 : (k : Int) < (l.length : Int) := by omega
        have e2 : ¬ (k : Int) ≤ 80 := by omega
        have e3 : ¬ (l.length : Int) ≤ 80 := by omega
        have HF : Hid (shr5 l = false) := by show _ = _; unfold shr5; rw [decide_eq_false (by omega)]; rfl
        go_wp2
        go_ret
        exact ⟨by rw [unhide HF]; rfl, rfl⟩
    · obtain rfl : k = l.length := by omega
      have HF : Hid (shr5 l = (decide ((l.length : Int) ≤ 80) && decide ((m : Int) ≤ 131072))) := by
        show _ = _
        unfold shr5
        have := unhide HM
        rw [List.take_length] at this
        rw [← this]
        congr 1 <;> simp <;> omega
      by_cases h1 : l.length ≤ 80
      · have e1 : (l.length : Int) ≤ 80 := by omega
        go_wp2
        go_ret
        exact ⟨by rw [unhide HF]; simp [e1], rfl⟩
      · have e1 : ¬ (l.length : Int) ≤ 80 := by omega
        have HG : Hid (shr5 l = false) := by show _ = _; rw [unhide HF, decide_eq_false e1]; rfl
        go_wp2
        go_ret
        exact ⟨by rw [unhide HG]; rfl, rfl⟩
#print axioms short5
/-! ### rec -/
def D5.rc (d : D5) : List UInt8 := d.b ++ List.replicate (IntKind.u64.wrap d.s % 5000).toNat 0
theorem mod5000 (o : Int) : ∃ z : Nat, z < 5000 ∧ wrap64 ((IntKind.u64.wrap o).tmod 5000) = (z : Int) ∧ z = (IntKind.u64.wrap o % 5000).toNat := by
  have e : IntKind.u64.wrap o = o % 18446744073709551616 := by simp [IntKind.wrap, IntKind.bits, IntKind.signed]
  have h0 : 0 ≤ o % 18446744073709551616 := Int.emod_nonneg _ (by omega)
  have e2 : (o % 18446744073709551616).tmod 5000 = o % 18446744073709551616 % 5000 := Int.tmod_eq_emod_of_nonneg h0
  refine ⟨(IntKind.u64.wrap o % 5000).toNat, by rw [e]; omega, ?_, rfl⟩
  rw [e, e2]
  rw [IntWalk.wrap64_in _ (by omega)]
  omega
#print axioms mod5000
end Go.Proofs.YtneclcihjbkhlaaGreatDoor
end
section
set_option linter.unusedVariables false
set_option maxRecDepth 1000000
namespace Go.Proofs.YtneclcihjbkhlaaGreatDoor
open Go.RowKit Go.Maps

set_option maxHeartbeats 400000 in
theorem sclone_big (a : Option Addr) (n cap : Nat) (l : List UInt8) (w : World) (hr : Bs w a cap l) (hn : n = l.length) (hl : l.length ≤ 140737488355328) :
    Calls Tryz.prog 62 #[.slice a n cap] w fun e w' => ∃ a' cap' r, e = .returned (.slice a' r.length cap') ∧ Hid (r = l) ∧ OwnB w' w.heap.size a' cap' r ∧ Below w.heap.size w w' := by
  have hq := fun (wx : World) (a : Option Addr) (n c : Nat) => Lib.run_eql_slice_nil (P := Tryz.prog) wx 39 5 a n c 0 0 Tryz.underlying39
  cases a with
  | none =>
    have hl0 : l = [] := by
      apply Classical.byContradiction
      intro hne
      obtain ⟨b, off, hh, _⟩ := hr.row hne
      cases hh
    subst hl0
    go_enter Tryz.func62, Tryz.ntmps62
    go_wp2
    go_ret
    exact ⟨none, 0, [], rfl, rfl, OwnB.nil _ _, Below.refl _ _⟩
  | some ad =>
    subst hn
    go_enter Tryz.func62, Tryz.ntmps62
    go_wp2_with (at_builtin; refine wp_app _ rfl _ _ rfl w.heap.size (some ⟨w.heap.size, 0, none⟩) 0 [] rfl (own_empty w _ (Nat.le_refl _)) (some ad) cap l _ rfl rfl (hr.row.alloc _) (fun h => by cases h) ?c3 ?c4 ?_)
    case c3 => simp; omega
    case c4 => simp
    intro a2 cap2 r2 w2 hr2 ho2 hg2
    have hb2 : Below w.heap.size w w2 := below_grown (a := some ⟨w.heap.size, 0, none⟩) ((Below.refl _ _).alloc (Nat.le_refl _) _) hg2 (Nat.le_refl _) (fun k hk => by simp [blk] at hk; omega)
    have HR : Hid (r2 = l) := by
      show _ = _
      rw [hr2.out]
    clear hr2 hg2
    go_wp2
    go_ret
    exact ⟨a2, cap2, r2, rfl, HR, ho2, hb2⟩
#print axioms sclone_big
end Go.Proofs.YtneclcihjbkhlaaGreatDoor
end
section
set_option linter.unusedVariables false
set_option maxRecDepth 1000000
namespace Go.Proofs.YtneclcihjbkhlaaGreatDoor
open Go.RowKit Go.Maps

theorem stp_app0 (w : World) {ops : Array Oper} {o : Oper} {a : Act} {K : Act → World → Prop} {Q : Exit → Act → World → Prop} {E : Prop} (hgd : o.guard = none) (s x : Operand)
    (ho : o.op = .call { callee := .builtin .append, args := #[s, x], argTypes := #[39, 3] })
    (base : Nat) (a1 : Option Addr) (cap1 : Nat) (l1 : List UInt8) (n1 : Nat) (hs : a.eval s = .slice a1 n1 cap1) (hn1 : n1 = l1.length) (hown : OwnB w base a1 cap1 l1)
    (z : Int) (n : Nat) (hx : a.eval x = .int .i64 z) (hz : z = (n : Int)) (hlen : l1.length + n ≤ 140737488355328) (hbase : base ≤ w.heap.size)
    (h : ∀ a' cap' r w', Hid (r = l1 ++ List.replicate n 0) → OwnB w' base a' cap' r → w.grownBy w' (blk a1) → Hid (a' = a1 ∨ ∀ k, blk a' = some k → w.heap.size ≤ k) → K (a.put o.dst (.slice a' r.length cap')) w') :
    if Region.wanted o (yielded ops a.tmps) = true then Oper.wp Tryz.prog o a w K Q else E :=
  stp_of_list hgd (wp_app0 w hgd s x ho base a1 cap1 l1 n1 hs hn1 hown z n hx hz hlen hbase (fun a' cap' r w' h1 h2 h3 h4 => ⟨rfl, h a' cap' r w' h1 h2 h3 h4⟩))
set_option maxHeartbeats 4000000 in
theorem rec5 (d : D5) (a : A5) (w : World) (h : DV5 w d a) (hl : d.b.length ≤ 131072) :
    Calls Tryz.prog 21 #[.agg #[.int .i64 d.o, .slice a.x d.b.length a.c, .int .i64 d.s, .int .i64 d.n, .slice a.y d.k.length a.m]] w fun e w' => ∃ x c r, e = .returned (.slice x r.length c) ∧ Hid (r = d.rc) ∧ Hid (OwnB w' w.heap.size x c r) ∧ Hid (Below w.heap.size w w') := by
  obtain ⟨V, hV⟩ : ∃ V, V = w.alloc (.cells #[.int .i64 d.o, .slice a.x d.b.length a.c, .int .i64 d.s, .int .i64 d.n, .slice a.y d.k.length a.m] 42) := ⟨_, rfl⟩
  obtain ⟨B, hB⟩ : ∃ B, B = w.heap.size := ⟨_, rfl⟩
  have hbV : Below w.heap.size w V := by rw [hV]; exact (Below.refl _ _).alloc (Nat.le_refl _) _
  have hrV : V.heap[B]? = some (.cells #[.int .i64 d.o, .slice a.x d.b.length a.c, .int .i64 d.s, .int .i64 d.n, .slice a.y d.k.length a.m] 42 (0, 0)) := by rw [hB, hV]; exact heap_alloc_new _ _
  have c1 : V.cell? ⟨B, 1, none⟩ = some (.slice a.x d.b.length a.c) := cell_of_row _ _ _ _ _ _ hrV
  have c2 : V.cell? ⟨B, 2, none⟩ = some (.int .i64 d.s) := cell_of_row _ _ _ _ _ _ hrV
  have HLT : Hid (B < V.heap.size) := (Array.getElem?_eq_some_iff.1 hrV).1
  have HBV := hide hbV
  have HC := hide (sclone_big a.x d.b.length a.c d.b V.drew (h.b.below hbV.drew (Nat.le_refl _)) rfl (by omega))
  obtain ⟨z, hz5, hz, hzd⟩ := mod5000 d.s
  have HZD := hide hzd
  have hz8 : IntKind.i64.wrap ((IntKind.u64.wrap d.s).tmod 5000) = (z : Int) := by
    have e : IntKind.u64.wrap d.s = d.s % 18446744073709551616 := by simp [IntKind.wrap, IntKind.bits, IntKind.signed]
    have e2 : (IntKind.u64.wrap d.s).tmod 5000 = IntKind.u64.wrap d.s % 5000 := Int.tmod_eq_emod_of_nonneg (by rw [e]; exact Int.emod_nonneg _ (by omega))
    rw [IntKind.wrap_i64, e2, hzd]
    omega
  clear hbV hrV h hzd
  go_enter Tryz.func21, Tryz.ntmps21
  go_upto_region 1 with fail
  rw [← hV, ← hB]
  clear hV hB
  refine wp_region_held_drew (S := fun w' => w'.cell? ⟨B, 1, none⟩ = some (.slice a.x d.b.length a.c) ∧ w'.cell? ⟨B, 2, none⟩ = some (.int .i64 d.s)) (by kernel_rfl) (And.intro c1 c2) (fun hHeld => ?_)
  refine wpAnyH_take (i := 0) (oi := ?_) (v := ?_) ?_ (by kernel_rfl) ?_ ?_ ?_ ?_ hHeld ?_
  rotate_left 2
  · (simp only [List.getElem?_toArray, List.getElem?_cons_zero]) <;> with_reducible rfl
  · kernel_rfl
  · kernel_rfl
  · exact fun _ _ _ h => h
  · exact Or.inl ⟨by rfl, by (intro w hSw; (try dsimp only at hSw); go_simp <;> with_reducible rfl)⟩
  simp only [Act.put, List.setIfInBounds_toArray, List.set_cons_zero, List.set_cons_succ]
  refine wpAnyH_take (i := 1) (oi := ?_) (v := ?_) ?_ (by kernel_rfl) ?_ ?_ ?_ ?_ hHeld ?_
  rotate_left 2
  · (simp only [List.getElem?_toArray, List.getElem?_cons_succ, List.getElem?_cons_zero]) <;> with_reducible rfl
  · kernel_rfl
  · kernel_rfl
  · exact fun _ _ _ h => h
  · exact Or.inl ⟨by rfl, by (intro w hSw; (try dsimp only at hSw); go_simp <;> with_reducible rfl)⟩
  simp only [Act.put, List.setIfInBounds_toArray, List.set_cons_zero, List.set_cons_succ]
  refine wpAnyH_take (i := 3) (oi := ?_) (v := ?_) ?_ (by kernel_rfl) ?_ ?_ ?_ ?_ hHeld ?_
  rotate_left 2
  · (simp only [List.getElem?_toArray, List.getElem?_cons_succ, List.getElem?_cons_zero]) <;> with_reducible rfl
  · kernel_rfl
  · kernel_rfl
  · exact fun _ _ _ h => h
  · exact Or.inl ⟨by rfl, by (intro w hSw; (try dsimp only at hSw); go_simp <;> with_reducible rfl)⟩
  simp only [Act.put, List.setIfInBounds_toArray, List.set_cons_zero, List.set_cons_succ]
  refine wpAnyH_take (i := 4) (oi := ?_) (v := ?_) ?_ (by kernel_rfl) ?_ ?_ ?_ ?_ hHeld ?_
  rotate_left 2
  · (simp only [List.getElem?_toArray, List.getElem?_cons_succ, List.getElem?_cons_zero]) <;> with_reducible rfl
  · kernel_rfl
  · kernel_rfl
  · exact fun _ _ _ h => h
  · exact Or.inl ⟨by rfl, by (intro w hSw; (try dsimp only at hSw); go_simp <;> with_reducible rfl)⟩
  simp only [Act.put, List.setIfInBounds_toArray, List.set_cons_zero, List.set_cons_succ]
  refine wpAnyH_take (i := 5) (oi := ?_) (v := ?_) ?_ (by kernel_rfl) ?_ ?_ ?_ ?_ hHeld ?_
  rotate_left 2
  · (simp only [List.getElem?_toArray, List.getElem?_cons_succ, List.getElem?_cons_zero]) <;> with_reducible rfl
  · kernel_rfl
  · kernel_rfl
  · exact fun _ _ _ h => h
  · exact Or.inl ⟨by rfl, by (intro w hSw; (try dsimp only at hSw); go_simp <;> with_reducible rfl)⟩
  simp only [Act.put, List.setIfInBounds_toArray, List.set_cons_zero, List.set_cons_succ]
  refine wpAnyH_take (i := 6) (oi := ?_) (v := ?_) ?_ (by kernel_rfl) ?_ ?_ ?_ ?_ hHeld ?_
  rotate_left 2
  · (simp only [List.getElem?_toArray, List.getElem?_cons_succ, List.getElem?_cons_zero]) <;> with_reducible rfl
  · kernel_rfl
  · kernel_rfl
  · exact fun _ _ _ h => h
  · exact Or.inl ⟨by rfl, by (intro w hSw; (try dsimp only at hSw); go_simp <;> with_reducible rfl)⟩
  simp only [Act.put, List.setIfInBounds_toArray, List.set_cons_zero, List.set_cons_succ]
  refine wpAnyH_take (i := 7) (oi := ?_) (v := ?_) ?_ (by kernel_rfl) ?_ ?_ ?_ ?_ hHeld ?_
  rotate_left 2
  · (simp only [List.getElem?_toArray, List.getElem?_cons_succ, List.getElem?_cons_zero]) <;> with_reducible rfl
  · kernel_rfl
  · kernel_rfl
  · exact fun _ _ _ h => h
  · exact Or.inl ⟨by rfl, by (intro w hSw; (try dsimp only at hSw); go_simp <;> with_reducible rfl)⟩
  simp only [Act.put, List.setIfInBounds_toArray, List.set_cons_zero, List.set_cons_succ]
  refine wpAnyH_ready (rs := [2]) (by kernel_rfl) (by simp) (AllReadyH.cons (o := ?_) ?_ (fun K hK => ?_) AllReadyH.nil)
  rotate_left 1
  · (simp only [List.getElem?_toArray, List.getElem?_cons_succ, List.getElem?_cons_zero]) <;> with_reducible rfl
  go_simp
  refine (unhide HC).mono ?_
  rintro e x1 ⟨a1, k1, r1, rfl, HR1, ho1, hb1⟩
  have q1 : x1.cell? ⟨B, 1, none⟩ = some (.slice a.x d.b.length a.c) := by rw [hb1.cell (unhide HLT)]; exact c1
  have q2 : x1.cell? ⟨B, 2, none⟩ = some (.int .i64 d.s) := by rw [hb1.cell (unhide HLT)]; exact c2
  have HB1 := hide hb1
  have HO1 := hide ho1
  have hr1 : r1.length ≤ 131072 := by rw [unhide HR1]; exact hl
  clear HC hb1 ho1 hHeld
  refine hK.out _ _ (And.intro q1 q2) (fun hHeld => ?_)
  clear hK K
  try simp only [Act.put, List.setIfInBounds_toArray, List.set_cons_zero, List.set_cons_succ]
  refine wpAnyH_ready (rs := [8]) (by kernel_rfl) (by simp) (AllReadyH.cons (o := ?_) ?_ (fun K hK => ?_) AllReadyH.nil)
  rotate_left 1
  · (simp only [List.getElem?_toArray, List.getElem?_cons_succ, List.getElem?_cons_zero]) <;> with_reducible rfl
  refine stp_app0 _ rfl _ _ rfl V.heap.size a1 k1 r1 _ rfl rfl (unhide HO1) _ z rfl rfl (by omega) (unhide HB1).size ?_
  intro a' cap' r w' hr ho' hg' hloc
  have hb2 : Below V.heap.size V w' := below_grown (a := a1) ((Below.refl V.heap.size V).drew.trans (unhide HB1)) hg' (Nat.le_refl _) (fun k hk => ((unhide HO1).lt k hk).1)
  have q3 : w'.cell? ⟨B, 1, none⟩ = some (.slice a.x d.b.length a.c) := by rw [hb2.cell (unhide HLT)]; exact c1
  have q4 : w'.cell? ⟨B, 2, none⟩ = some (.int .i64 d.s) := by rw [hb2.cell (unhide HLT)]; exact c2
  have HRR : Hid (r = d.rc) := by show _ = _; rw [unhide hr, unhide HR1, unhide HZD]; rfl
  have HOR : Hid (OwnB w' w.heap.size a' cap' r) := ho'.base (unhide HBV).size
  have HBR : Hid (Below w.heap.size w w') := (unhide HBV).trans (hb2.mono (unhide HBV).size)
  clear HO1 HB1 hr ho' hg' hloc HR1
  refine hK.out _ _ (And.intro q3 q4) (fun hHeld => ?_)
  clear hK K
  try simp only [Act.put, List.setIfInBounds_toArray, List.set_cons_zero, List.set_cons_succ]
  refine wpAnyH_take (i := 9) (oi := ?_) (v := ?_) ?_ (by kernel_rfl) ?_ ?_ ?_ ?_ hHeld ?_
  rotate_left 2
  · (simp only [List.getElem?_toArray, List.getElem?_cons_succ, List.getElem?_cons_zero]) <;> with_reducible rfl
  · kernel_rfl
  · kernel_rfl
  · exact fun _ _ _ h => h
  · exact Or.inl ⟨by rfl, by (intro w hSw; (try dsimp only at hSw); go_simp <;> with_reducible rfl)⟩
  simp only [Act.put, List.setIfInBounds_toArray, List.set_cons_zero, List.set_cons_succ]
  refine wpAnyH_done (by kernel_rfl) ?_ _
  go_wp2_with fail
  go_ret
  exact ⟨a', cap', r, rfl, HRR, HOR, HBR⟩
#print axioms rec5
end Go.Proofs.YtneclcihjbkhlaaGreatDoor
end
