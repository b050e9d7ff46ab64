/-
  seglog's statements: begun; awake.; seglog's statements: awake.; seglog: a log that no call made, a disk that none made; SeglogNobody's walk. (genSgX.py)
-/
import Derived.Test.YtneclcihjbkhlabGreatDoorPkSodyba
import Derived.Lib.SlBytesConst
import Derived.Lib.SmallJoins
section
set_option linter.unusedVariables false
set_option maxRecDepth 1000000
namespace Go.Proofs.YtneclcihjbkhlabGreatDoor
open Go.RowKit Go.Maps

/-- A new log over a new disk. -/
def BgR (w0 w' : World) (D B : Nat) (z : Int) : Prop := ∃ g' P pc l, LgS w' g' B D P pc l [] ∧ DK w' g' 0 D (Md.new z) 302 ∧ LW w0 w' g'
set_option maxHeartbeats 2000000 in
theorem begun5 (w0 : World) (g : Nat → Tg) (z : Int) (w : World) (hE : EnvS w0) (hL : LW w0 w g) (h0 : 0 ≤ z) (h1 : z ≤ 16777216) :
    Calls Tryz.prog 8 #[.int .i64 z] w fun e w' => ∃ D B, e = .returned (.tuple #[.pointer (some ⟨D, 0, none⟩), .pointer (some ⟨B, 0, none⟩), .bool true]) ∧ Hid (BgR w0 w' D B z) := by
  have HNE := hide (new_k w0 g 0 z w h0 h1 hL)
  have HEE := hide hE
  clear hE hL
  go_enter Tryz.func8, Tryz.ntmps8
  go_wp2_with fail
  refine (unhide HNE).mono ?_
  rintro e w1 ⟨D, g1, rfl, hd1, hL1, _, _⟩
  have HOP := hide (open_new w0 g1 D z 0 w1 (unhide HEE) hL1 hd1 (by omega))
  have HL1 := hide hL1
  clear HNE hd1 hL1
  go_wp2_with fail
  refine (unhide HOP).mono ?_
  rintro e w2 ⟨B, rfl, HO⟩
  have HF : Hid (BgR w0 w2 D B z) := by
    obtain ⟨g2, P, pc, l, h1, h2, h3⟩ := unhide HO
    exact ⟨g2, P, pc, l, h1, h2.monoN (by omega), (unhide HL1).st2 h3 x01o⟩
  clear HOP HO
  go_wp2_with fail
  go_ret3
  exact ⟨D, B, rfl, HF⟩
#print axioms begun5
/-- A disk that has no file but one. -/
structure Only (M : Md) (nm : Nm) : Prop where
  seen : ∀ m, m ≠ nm → M.seen m = none
  last : ∀ m, m ≠ nm → M.last m = none
  pend : ∀ a ∈ M.pend, a.n = nm
theorem Only.new (z : Int) (nm : Nm) : Only (Md.new z) nm := ⟨fun _ _ => rfl, fun _ _ => rfl, fun a ha => by simp [Md.new] at ha⟩
theorem Only.write {M : Md} {nm : Nm} (h : Only M nm) (b : List UInt8) : Only (M.write nm b) nm := by
  unfold Md.write
  split
  · refine ⟨fun m hm => ?_, fun m hm => h.last m hm, fun a ha => ?_⟩
    · rw [perform_seen, doF_other hm]; exact h.seen m hm
    · rcases List.mem_append.1 (show a ∈ M.pend ++ [_] from ha) with h1 | h1
      · exact h.pend a h1
      · rw [List.mem_singleton.1 h1]
  · exact h
theorem Only.sync {M : Md} {nm : Nm} (h : Only M nm) : Only (M.sync nm) nm := by
  refine ⟨fun m hm => by rw [sync_seen]; exact h.seen m hm, fun m hm => ?_, fun a ha => ?_⟩
  · unfold Md.sync
    split
    · show ((M.pend.filter (isN nm)).foldl Md.lasts M).last m = none
      rw [lasts_last, fold_other _ (fun a ha e => hm (by rw [← e]; exact h.pend a (List.mem_filter.1 ha).1))]
      exact h.last m hm
    · exact h.last m hm
  · unfold Md.sync at ha
    split at ha
    · exact h.pend a (List.mem_filter.1 (show a ∈ M.pend.filter _ from ha)).1
    · exact h.pend a ha
theorem kept_mem {α : Type} : ∀ (l : List α) (k : List Bool) (a : α), a ∈ keptL l k → a ∈ l
  | [], k, a, h => by simp [keptL] at h
  | x :: r, k, a, h => by
    rcases List.mem_append.1 (show a ∈ (if k.headD false then [x] else []) ++ keptL r k.tail from h) with e | e
    · split at e
      · rw [List.mem_singleton.1 e]; exact List.mem_cons_self
      · cases e
    · exact List.mem_cons_of_mem _ (kept_mem r k.tail a e)
theorem tornL_n {l : List Ac} {z : Int} {nm : Nm} (h : ∀ a ∈ l, a.n = nm) : ∀ a ∈ tornLast l z, a.n = nm := fun a ha => by
  unfold tornLast at ha
  rcases List.mem_append.1 ha with h1 | h1
  · exact h a (List.dropLast_subset l h1)
  · cases hl : l.getLast? with
    | none => rw [hl] at h1; simp at h1
    | some x =>
      rw [hl] at h1
      simp at h1
      have e : (x.torn z).n = x.n := by unfold Ac.torn; split <;> rfl
      rw [h1, e]
      exact h x (List.mem_of_getLast? hl)
theorem Only.crash {M : Md} {nm : Nm} (h : Only M nm) (kl : List Bool) (z : Int) : ∀ m, m ≠ nm → (M.crash kl z).seen m = none := fun m hm => by
  rw [crash_seen, crash_last, fold_other _ (fun a ha e => hm (by rw [← e]; exact tornL_n (fun b hb => h.pend b (kept_mem _ _ b hb)) a ha))]
  exact h.last m hm
theorem nms_one {f : Files} {nm : Nm} (h : ∀ m, m ≠ nm → f m = none) (h1 : f nm ≠ none) {L : List Nm} (hl : Nms f L) : L = [nm] := by
  have hm : ∀ m, m ∈ L ↔ m = nm := fun m => by
    rw [hl.mem]
    constructor
    · intro h2
      apply Classical.byContradiction
      intro h3
      exact h2 (h m h3)
    · rintro rfl; exact h1
  have hnd := hl.nd
  cases L with
  | nil => have := (hm nm).2 rfl; cases this
  | cons a r =>
    have ha : a = nm := (hm a).1 (by simp)
    subst ha
    cases r with
    | nil => rfl
    | cons b r =>
      have hb : b = a := (hm b).1 (by simp)
      subst hb
      simp at hnd
theorem nmS_one : nmS 1 = [115, 101, 103, 46, 48, 48, 48, 48, 48, 48, 48, 48, 48, 48, 48, 48, 48, 48, 48, 48, 48, 48, 49] := by
  unfold nmS padS
  rw [Lib.decDigits_one (by omega)]
  rfl
#print axioms Only.crash
/-! ### awake -/
def aF1 : List UInt8 := frmN 1 [97]
def aF2 : List UInt8 := frmN 2 [98]
def aF3 : List UInt8 := frmN 3 [99]
def aM1 : Md := (Md.new 1000).write (nmS 1) aF1
def aM2 : Md := aM1.sync (nmS 1)
def aM3 : Md := aM2.write (nmS 1) aF2
def aM4 : Md := aM3.write (nmS 1) aF3
def aM5 : Md := aM4.crash [false, true] 0
def aS1 : List Sg := [⟨1, [[97]], 9⟩]
def aS2 : List Sg := [⟨1, [[97], [98]], 18⟩]
def aS3 : List Sg := [⟨1, [[97], [98], [99]], 27⟩]
def aB5 : List UInt8 := aF1 ++ [0, 0, 0, 0, 0, 0, 0, 0, 0] ++ aF3
theorem aF_len : aF1.length = 9 ∧ aF2.length = 9 ∧ aF3.length = 9 := ⟨by kernel_rfl, by kernel_rfl, by kernel_rfl⟩
theorem a_w1 : (Md.new 1000).writeE (nmS 1) aF1.length = 0 := by rw [nmS_one]; kernel_rfl
theorem a_w2 : aM2.writeE (nmS 1) aF2.length = 0 := by unfold aM2 aM1; rw [nmS_one]; kernel_rfl
theorem a_w3 : aM3.writeE (nmS 1) aF3.length = 0 := by unfold aM3 aM2 aM1; rw [nmS_one]; kernel_rfl
theorem a_t1 : aM1.thereE (nmS 1) = 0 := by unfold aM1; rw [nmS_one]; kernel_rfl
theorem a_t5 : aM5.thereE (nmS 1) = 0 := by unfold aM5 aM4 aM3 aM2 aM1; rw [nmS_one]; kernel_rfl
theorem a_r5 : aM5.readB (nmS 1) = aB5 := by unfold aM5 aM4 aM3 aM2 aM1; rw [nmS_one]; kernel_rfl
theorem a_rd : (rdS 1 aB5).first = 1 ∧ (rdS 1 aB5).recs = [[97]] ∧ (rdS 1 aB5).size = 9 := ⟨by kernel_rfl, by kernel_rfl, by kernel_rfl⟩
theorem a_c5 : aM5.cutE (nmS 1) 9 = 0 := by unfold aM5 aM4 aM3 aM2 aM1; rw [nmS_one]; kernel_rfl
#print axioms a_r5
end Go.Proofs.YtneclcihjbkhlabGreatDoor
end
section
set_option linter.unusedVariables false
set_option maxRecDepth 1000000
namespace Go.Proofs.YtneclcihjbkhlabGreatDoor
open Go.RowKit Go.Maps

/-- A log over its disk, as a statement sees it. -/
def AwS (w0 w : World) (B D : Nat) (M : Md) (N : Nat) (S : List Sg) : Prop := ∃ g P pc l, LgS w g B D P pc l S ∧ DK w g 0 D M N ∧ LW w0 w g
theorem append_lit (w0 w : World) (B D : Nat) (M M' : Md) (N n : Nat) (S S' : List Sg) (z : Int) (u : UInt8) (m : Nat × Nat) (hE : EnvS w0) (h : AwS w0 w B D M N S) (ok : SOk S) (wf : Wf S) (hN : N ≤ 1300) (e : z = (u.toNat : Int))
    (hn : nxS S = n) (he : apE M S [u] = 0) (hsl : S.length + 1 ≤ 1000000) (hsr : (S.flatMap (·.recs)).length + 1 ≤ 1000000) (hsz : bySz S + 70000 ≤ 9000000000000000000) (hsy : fullS S → syE M S = 0)
    (hM' : (apD M S).write (nmS (apN S)) (frmN (nxS S) [u]) = M') (hS' : apS S [u] = S') :
    Calls Tryz.prog 17 #[.pointer (some ⟨B, 0, none⟩), .slice (some ⟨w.heap.size, 0, none⟩) 1 1] (w.alloc (.cells #[.int .u8 z] 5 m)) fun e w' => e = .returned (.tuple #[.int .i64 (n : Int), .int .i64 0]) ∧ Hid (AwS w0 w' B D M' (N + 2) S') := by
  obtain ⟨g, P, pc, l, h1, h2, h3⟩ := h
  have ba : Below w.heap.size w (w.alloc (.cells #[.int .u8 z] 5 m)) := (Below.refl _ _).alloc (Nat.le_refl _) _
  have hsz1 : (w.alloc (.cells #[.int .u8 z] 5 m)).heap.size = w.heap.size + 1 := Array.size_push _
  have hx := lit_one w m z u e
  generalize hV : w.alloc (.cells #[.int .u8 z] 5 m) = V at *
  obtain ⟨g1, hg1⟩ : ∃ g1 : Nat → Tg, g1 = fun b => if b < w.heap.size then g b else .o := ⟨_, rfl⟩
  have st1 : St w V g g1 (fun _ => False) := (St.ofBelow g _ ba).tag (fun k hk => by rw [hg1]; exact if_pos hk)
  have hgo : g1 w.heap.size = .o := by rw [hg1]; exact if_neg (Nat.lt_irrefl _)
  have hL1 := h3.st2 st1 (fun e => e)
  refine (append5 w0 g1 B D P pc l S M N (some ⟨w.heap.size, 0, none⟩) 1 [u] V hE hL1 (h1.keep st1 (fun t _ e => e)) (h2.keep1 (st1.mono (fun t e => e.elim))) ok wf hN hx (fun k hk => ?_) (by simp) hsl hsr hsz hsy).mono ?_
  · simp [blk] at hk
    subst hk
    exact ⟨by omega, by rw [hgo]; exact x01o⟩
  · rintro e w' ⟨n', E, rfl, hE', hr⟩
    rw [he] at hE'
    subst hE'
    rcases hr with ⟨_, hn', hr⟩ | ⟨h, _⟩
    · obtain ⟨g', P', pc', l', a, b, c⟩ := hr
      rw [hM'] at b
      rw [hS'] at a
      exact ⟨by rw [hn', hn], g', P', pc', l', a, b, hL1.st2 c x01o⟩
    · exact absurd rfl h
theorem sync_lit (w0 w : World) (B D : Nat) (M M' : Md) (N : Nat) (S : List Sg) (hE : EnvS w0) (h : AwS w0 w B D M N S) (ok : SOk S) (hN : N ≤ 1400) (he : syE M S = 0) (hM' : syM M S = M') :
    Calls Tryz.prog 19 #[.pointer (some ⟨B, 0, none⟩)] w fun e w' => e = .returned (.int .i64 0) ∧ Hid (AwS w0 w' B D M' (N + 1) S) := by
  obtain ⟨g, P, pc, l, h1, h2, h3⟩ := h
  refine (sync5 w0 g B D P pc l S M N w hE h3 h1 h2 ok hN).mono ?_
  rintro e w' ⟨rfl, g', P', pc', l', a, b, c⟩
  rw [hM'] at b
  exact ⟨by rw [he], g', P', pc', l', a, b, h3.st2 c x01o⟩
theorem crash_lit (w0 w : World) (B D : Nat) (M : Md) (N : Nat) (S : List Sg) (m : Nat × Nat) (h : AwS w0 w B D M N S) (hN : N ≤ 1400) :
    Calls Tryz.prog 22 #[.pointer (some ⟨D, 0, none⟩), .slice (some ⟨w.heap.size, 0, none⟩) 2 2, .int .i64 0] (w.alloc (.cells #[.bool false, .bool true] 4 m)) fun e w' => e = .returned (.int .i64 0) ∧ Hid (∃ g, DK w' g 0 D (M.crash [false, true] 0) (N + 1) ∧ LW w0 w' g) := by
  obtain ⟨g, P, pc, l, h1, h2, h3⟩ := h
  have ba : Below w.heap.size w (w.alloc (.cells #[.bool false, .bool true] 4 m)) := (Below.refl _ _).alloc (Nat.le_refl _) _
  refine (crash_k g 0 D M N (some ⟨w.heap.size, 0, none⟩) [false, true] 2 2 0 _ (h2.below ba) hN (hide rfl) (lit_ft w m) (by unfold maxLen; omega)).mono ?_
  rintro e w' ⟨rfl, g', d, s⟩
  exact ⟨rfl, g', d, (h3.bel ba).st s⟩
theorem a_only : Only aM4 (nmS 1) := (((Only.new 1000 (nmS 1)).write aF1).sync.write aF2).write aF3
theorem a_here : aM5.seen (nmS 1) ≠ none := by
  have h : (aM5.seen (nmS 1)).isSome = true := by unfold aM5 aM4 aM3 aM2 aM1; rw [nmS_one]; kernel_rfl
  intro e
  rw [e] at h
  cases h
theorem a_num : [nmS 1].filterMap numM = [1] := by
  simp [numM_nm 1 (by omega) (by omega)]
theorem a_ga : ga aM5 [1] = (aM5, [rdS 1 aB5], decide ((rdS 1 aB5).size = aB5.length)) := by
  show gaT (aM5, [], true) 1 = _
  have e : gaD (aM5, [], true) 1 = (aM5, []) := by
    unfold gaD
    rw [if_neg]
    rintro (h | h)
    · exact h rfl
    · cases h
  unfold gaT
  rw [e, a_r5]
  rfl
theorem sg_eq {s : Sg} {f z : Nat} {r : List (List UInt8)} (h1 : s.first = f) (h2 : s.recs = r) (h3 : s.size = z) : s = ⟨f, r, z⟩ := by
  cases s
  simp at h1 h2 h3
  subst h1 h2 h3
  rfl
theorem a_s5 : rdS 1 aB5 = ⟨1, [[97]], 9⟩ := sg_eq a_rd.1 a_rd.2.1 a_rd.2.2
theorem sok_aS1 : SOk aS1 := ⟨by simp [aS1], by simp [aS1, Sg.next], by simp [aS1, bySz], by simp [aS1], by simp [aS1]⟩
theorem sok_aS2 : SOk aS2 := ⟨by simp [aS2], by simp [aS2, Sg.next], by simp [aS2, bySz], by simp [aS2], by simp [aS2]⟩
theorem wf_one {s : Sg} (h1 : 1 ≤ s.first) (h2 : s.size = flN s.first s.recs) : Wf [s] := ⟨fun i a b ha hb => by simp at hb, fun a ha => by rw [List.mem_singleton.1 ha]; exact h1, fun a ha => by rw [List.mem_singleton.1 ha]; exact h2⟩
theorem wf_nil : Wf [] := ⟨fun i a b ha hb => by simp at hb, fun a ha => (by cases ha), fun a ha => (by cases ha)⟩
theorem wf_aS1 : Wf aS1 := wf_one (by show 1 ≤ 1; omega) (by kernel_rfl)
theorem wf_aS2 : Wf aS2 := wf_one (by show 1 ≤ 1; omega) (by kernel_rfl)
theorem a_e1 : apE (Md.new 1000) [] [97] = 0 := by
  unfold apE
  have k1 : ¬ nxS [] = 9223372036854775807 := by show ¬ 1 = 9223372036854775807; omega
  have k2 : (form (nxS []) ++ [97]).length = (form (nxS []) ++ [97]).length := rfl
  have k3 : (form (nxS []) ++ [97]).length < 100 := by
    have h : decide ((form (nxS []) ++ [(97 : UInt8)]).length < 100) = true := by kernel_rfl
    exact of_decide_eq_true h
  have k4 : ¬ 65536 < (form (nxS []) ++ [97]).length := by omega
  rw [if_neg k1, if_neg k4]
  exact a_w1
theorem a_e2 : apE aM2 aS1 [98] = 0 := by
  unfold apE
  have k1 : ¬ nxS aS1 = 9223372036854775807 := by show ¬ 2 = 9223372036854775807; omega
  have k2 : (form (nxS aS1) ++ [98]).length = (form (nxS aS1) ++ [98]).length := rfl
  have k3 : (form (nxS aS1) ++ [98]).length < 100 := by
    have h : decide ((form (nxS aS1) ++ [(98 : UInt8)]).length < 100) = true := by kernel_rfl
    exact of_decide_eq_true h
  have k4 : ¬ 65536 < (form (nxS aS1) ++ [98]).length := by omega
  rw [if_neg k1, if_neg k4]
  exact a_w2
theorem a_e3 : apE aM3 aS2 [99] = 0 := by
  unfold apE
  have k1 : ¬ nxS aS2 = 9223372036854775807 := by show ¬ 3 = 9223372036854775807; omega
  have k2 : (form (nxS aS2) ++ [99]).length = (form (nxS aS2) ++ [99]).length := rfl
  have k3 : (form (nxS aS2) ++ [99]).length < 100 := by
    have h : decide ((form (nxS aS2) ++ [(99 : UInt8)]).length < 100) = true := by kernel_rfl
    exact of_decide_eq_true h
  have k4 : ¬ 65536 < (form (nxS aS2) ++ [99]).length := by omega
  rw [if_neg k1, if_neg k4]
  exact a_w3
theorem a_p1 : apS [] [97] = aS1 := by kernel_rfl
theorem a_p2 : apS aS1 [98] = aS2 := by kernel_rfl
theorem a_p3 : apS aS2 [99] = aS3 := by kernel_rfl
theorem aw_open (w0 w : World) (D N : Nat) (hE : EnvS w0) (h : ∃ g, DK w g 0 D aM5 N ∧ LW w0 w g) (hN : N ≤ 1000) :
    Calls Tryz.prog 21 #[.pointer (some ⟨D, 0, none⟩)] w fun e w' => ∃ B, e = .returned (.tuple #[.pointer (some ⟨B, 0, none⟩), .int .i64 0]) ∧ Hid (∃ M', AwS w0 w' B D M' (N + 302) aS1) := by
  obtain ⟨g, h2, h3⟩ := h
  have hon := a_only.crash [false, true] 0
  have hL : ∀ L, Nms aM5.seen L → L.filterMap numM = [1] := fun L hl => by rw [nms_one hon a_here hl]; exact a_num
  refine (open5 w0 g D aM5 N w hE h3 h2 hN (fun n hn => ?_) (fun L hl => ?_)).mono ?_
  · have : n = nmS 1 := Classical.byContradiction (fun e => hn (hon n e))
    rw [this, nmS_one]
    simp
  · rw [hL L hl]
    refine ⟨by simp, fun i n hi => ?_, ?_, ?_⟩
    · cases i with
      | zero =>
        simp at hi
        subst hi
        have e : gaD (ga aM5 (List.take 0 [1])) 1 = (aM5, []) := by
          show gaD (aM5, [], true) 1 = _
          unfold gaD
          rw [if_neg]
          rintro (h | h)
          · exact h rfl
          · cases h
        refine ⟨sok_nil, fun s hs => (by cases hs), fun i j s t hij hs => by simp [ga] at hs, by omega, ?_, ?_⟩
        · rw [e]; exact a_t5
        · rw [e]
          show (aM5.readB (nmS 1)).length ≤ _
          rw [a_r5]
          have : aB5.length = 27 := by kernel_rfl
          omega
      | succ i => simp at hi
    · rw [a_ga]
      show SOk [rdS 1 aB5]
      rw [a_s5]
      exact sok_aS1
    · rw [a_ga]
      show aM5.cutE (nmS (rdS 1 aB5).first) ((rdS 1 aB5).size : Int) = 0
      rw [a_s5]
      exact a_c5
  · rintro e w' ⟨B, rfl, L, g', P, pc, l, hl, a, b, c⟩
    rw [hL L hl] at a b
    rw [a_ga] at a
    refine ⟨B, rfl, _, g', P, pc, l, ?_, b, h3.st2 c x01o⟩
    have : [rdS 1 aB5] = aS1 := by rw [a_s5]; rfl
    rw [← this]
    exact a
#print axioms aw_open
set_option maxHeartbeats 4000000 in
theorem awake5 (w0 : World) (g : Nat → Tg) (w : World) (hE : EnvS w0) (hL : LW w0 w g) : Calls Tryz.prog 7 #[] w fun e w' => e = .returned (.bool true) ∧ Hid (Below w0.heap.size w0 w') := by
  have kc := fun (w : World) (C : Array Value) (n c : Nat) => Lib.run_convert_bytes_const (P := Tryz.prog) w 36 5 C n c Tryz.underlying36 Tryz.underlying5
  have HBG := hide (begun5 w0 g 1000 w hE hL (by omega) (by omega))
  have HE := hide hE
  clear hE hL
  go_enter Tryz.func7, Tryz.ntmps7
  go_wp2_with fail
  refine (unhide HBG).mono ?_
  rintro e w1 ⟨D, B, rfl, HB1⟩
  have H1 : Hid (AwS w0 w1 B D (Md.new 1000) 302 []) := unhide HB1
  clear HBG HB1
  go_wp2_with fail
  refine (append_lit w0 w1 B D (Md.new 1000) aM1 302 1 [] aS1 97 97 _ (unhide HE) (unhide H1) sok_nil wf_nil (by omega) rfl rfl a_e1 (by simp) (by simp) (by simp [bySz]) (fun _ => rfl) rfl a_p1).mono ?_
  rintro e w2 ⟨rfl, H2⟩
  clear H1
  go_wp2_with fail
  refine (sync_lit w0 w2 B D aM1 aM2 304 aS1 (unhide HE) (unhide H2) sok_aS1 (by omega) a_t1 rfl).mono ?_
  rintro e w3 ⟨rfl, H3⟩
  clear H2
  go_wp2_with fail
  refine (append_lit w0 w3 B D aM2 aM3 305 2 aS1 aS2 98 98 _ (unhide HE) (unhide H3) sok_aS1 wf_aS1 (by omega) rfl rfl a_e2 (by simp [aS1]) (by simp [aS1]) (by simp [aS1, bySz]) (fun h => absurd (h _ rfl) (by simp)) rfl a_p2).mono ?_
  rintro e w4 ⟨rfl, H4⟩
  clear H3
  go_wp2_with fail
  refine (append_lit w0 w4 B D aM3 aM4 307 3 aS2 aS3 99 99 _ (unhide HE) (unhide H4) sok_aS2 wf_aS2 (by omega) rfl rfl a_e3 (by simp [aS2]) (by simp [aS2]) (by simp [aS2, bySz]) (fun h => absurd (h _ rfl) (by simp)) rfl a_p3).mono ?_
  rintro e w5 ⟨rfl, H5⟩
  clear H4
  go_wp2_with fail
  refine (crash_lit w0 w5 B D aM4 309 aS3 _ (unhide H5) (by omega)).mono ?_
  rintro e w6 ⟨rfl, H6⟩
  clear H5
  go_wp2_with fail
  refine (aw_open w0 w6 D 310 (unhide HE) (unhide H6) (by omega)).mono ?_
  rintro e w7 ⟨C, rfl, H7⟩
  obtain ⟨M', g7, P7, pc7, l7, a7, b7, c7⟩ := unhide H7
  have HRD := hide (read5 g7 C D P7 pc7 l7 aS1 1 w7 a7 sok_aS1 (by omega) (by omega))
  have HA7 := hide a7
  have HC7 := hide c7
  clear H6 H7 a7 b7 c7 kc
  go_wp2_with fail
  refine (unhide HRD).mono ?_
  rintro e w8 ⟨a, c, vs, rfl, HO, HP, HB⟩
  have hfr : frS aS1 1 = [[97]] := by kernel_rfl
  rw [hfr] at HP
  have hp := unhide HP
  have hlen : vs.length = 1 := hp.len
  obtain ⟨x, cx, hx, ox⟩ := hp.own 0 [97] rfl
  obtain ⟨G, rfl, _, hGl, _, hc⟩ := (unhide HO).some (by omega)
  have hc0 := hc 0 _ hx
  have hc1 : w8.cell? ⟨G, 0, none⟩ = some (.slice x 1 cx) := hc0
  have a8 := (unhide HA7).below (unhide HB)
  have HF := hide (first5 g7 C D P7 pc7 l7 aS1 w8 a8 sok_aS1)
  have HA8 := hide a8
  have HC8 : Hid (LW w0 w8 g7) := (unhide HC7).bel (unhide HB)
  have HX := hide ox
  rw [hlen]
  clear HRD HO HP HB hp hlen hc hc0 hx ox a8 HA7 HC7 hfr
  go_wp2_with fail
  refine (unhide HF).mono ?_
  rintro e w9 ⟨rfl, HB9⟩
  have a9 := (unhide HA8).below (unhide HB9)
  have HN := hide (next5 g7 C D P7 pc7 l7 aS1 w9 a9 sok_aS1)
  have HC9 : Hid (LW w0 w9 g7) := (unhide HC8).bel (unhide HB9)
  have hf1 : ((fsS aS1 : Nat) : Int) = 1 := rfl
  rw [hf1]
  clear a9 HF hf1
  go_wp2_with fail
  refine (unhide HN).mono ?_
  rintro e w10 ⟨rfl, HB10⟩
  have HC10 : Hid (LW w0 w10 g7) := (unhide HC9).bel (unhide HB10)
  have hb : Below w8.heap.size w8 w10 := (unhide HB9).trans ((unhide HB10).mono (unhide HB9).size)
  have hn1 : ((nxS aS1 : Nat) : Int) = 2 := rfl
  rw [hn1]
  have hcl : w10.cell? ⟨G, 0, none⟩ = some (.slice x 1 cx) := by rw [hb.cell hGl]; exact hc1
  have s1 := run_str w10 x 1 cx [97] ((unhide HX).below hb (Nat.le_refl _)).toBs.row rfl
  have t1 : str [97] = { data := #[97] } := rfl
  rw [t1] at s1
  clear HN hn1 hb HX hc1 HC8 HC9 HB9 HB10 HA8
  go_wp2
  go_ret
  exact ⟨rfl, (unhide HC10).below⟩
#print axioms awake5
end Go.Proofs.YtneclcihjbkhlabGreatDoor
end
section
set_option linter.unusedVariables false
set_option maxRecDepth 1000000
namespace Go.Proofs.YtneclcihjbkhlabGreatDoor
open Go.RowKit Go.Maps

/-- No call made it. -/
def UnL (w : World) (v : Value) : Prop := v = .pointer none ∨ ∃ Z, v = .pointer (some ⟨Z, 0, none⟩) ∧ w.cell? ⟨Z, 0, none⟩ = some (.pointer none)
theorem UnL.below {w w' : World} {B : Nat} {v : Value} (h : UnL w v) (hb : Below B w w') (hB : w.heap.size ≤ B) : UnL w' v := by
  rcases h with h | ⟨Z, h, c⟩
  · exact .inl h
  · exact .inr ⟨Z, h, by rw [hb.cell (Nat.lt_of_lt_of_le (World.block_lt_of_cell? w _ c) hB)]; exact c⟩
theorem unmadeU (v : Value) (w : World) (h : UnL w v) : Calls Tryz.prog 25 #[v] w fun e w' => e = .returned (.bool true) ∧ w' = w := by
  rcases h with rfl | ⟨Z, rfl, c0⟩
  · go_enter Tryz.func25, Tryz.ntmps25
    go_wp2
    go_ret
    exact ⟨rfl, rfl⟩
  · go_enter Tryz.func25, Tryz.ntmps25
    go_wp2
    go_ret
    exact ⟨rfl, rfl⟩
theorem firstU (v : Value) (w : World) (h : UnL w v) : Calls Tryz.prog 10 #[v] w fun e w' => e = .returned (.int .i64 0) ∧ w' = w := by
  have HU := hide (unmadeU v w h)
  clear h
  go_enter Tryz.func10, Tryz.ntmps10
  go_wp2_with fail
  refine (unhide HU).mono ?_
  rintro e w' ⟨rfl, rfl⟩
  go_wp2
  go_ret
  exact ⟨rfl, rfl⟩
theorem nextU (v : Value) (w : World) (h : UnL w v) : Calls Tryz.prog 13 #[v] w fun e w' => e = .returned (.int .i64 0) ∧ w' = w := by
  have HU := hide (unmadeU v w h)
  clear h
  go_enter Tryz.func13, Tryz.ntmps13
  go_wp2_with fail
  refine (unhide HU).mono ?_
  rintro e w' ⟨rfl, rfl⟩
  go_wp2
  go_ret
  exact ⟨rfl, rfl⟩
theorem segmentsU (v : Value) (w : World) (h : UnL w v) : Calls Tryz.prog 11 #[v] w fun e w' => e = .returned (.int .i64 0) ∧ w' = w := by
  have HU := hide (unmadeU v w h)
  clear h
  go_enter Tryz.func11, Tryz.ntmps11
  go_wp2_with fail
  refine (unhide HU).mono ?_
  rintro e w' ⟨rfl, rfl⟩
  go_wp2
  go_ret
  exact ⟨rfl, rfl⟩
theorem bytesU (v : Value) (w : World) (h : UnL w v) : Calls Tryz.prog 20 #[v] w fun e w' => e = .returned (.int .i64 0) ∧ w' = w := by
  have HU := hide (unmadeU v w h)
  clear h
  go_enter Tryz.func20, Tryz.ntmps20
  go_wp2_with fail
  refine (unhide HU).mono ?_
  rintro e w' ⟨rfl, rfl⟩
  go_wp2
  go_ret
  exact ⟨rfl, rfl⟩
theorem syncU (v : Value) (w : World) (h : UnL w v) : Calls Tryz.prog 19 #[v] w fun e w' => e = .returned (.int .i64 8) ∧ w' = w := by
  have HU := hide (unmadeU v w h)
  clear h
  go_enter Tryz.func19, Tryz.ntmps19
  go_wp2_with fail
  refine (unhide HU).mono ?_
  rintro e w' ⟨rfl, rfl⟩
  go_wp2
  go_ret
  exact ⟨rfl, rfl⟩
theorem trimU (v : Value) (z : Int) (w : World) (h : UnL w v) : Calls Tryz.prog 12 #[v, .int .i64 z] w fun e w' => e = .returned (.int .i64 8) ∧ w' = w := by
  have HU := hide (unmadeU v w h)
  clear h
  go_enter Tryz.func12, Tryz.ntmps12
  go_wp2_with fail
  refine (unhide HU).mono ?_
  rintro e w' ⟨rfl, rfl⟩
  go_wp2
  go_ret
  exact ⟨rfl, rfl⟩
theorem readU (v : Value) (z : Int) (w : World) (h : UnL w v) : Calls Tryz.prog 15 #[v, .int .i64 z] w fun e w' => e = .returned (.slice none 0 0) ∧ w' = w := by
  have HU := hide (unmadeU v w h)
  clear h
  go_enter Tryz.func15, Tryz.ntmps15
  go_wp2_with fail
  refine (unhide HU).mono ?_
  rintro e w' ⟨rfl, rfl⟩
  go_wp2
  go_ret
  exact ⟨rfl, rfl⟩
theorem appendU (v : Value) (z : Value) (w : World) (h : UnL w v) : Calls Tryz.prog 17 #[v, z] w fun e w' => e = .returned (.tuple #[.int .i64 0, .int .i64 8]) ∧ w' = w := by
  have HU := hide (unmadeU v w h)
  clear h
  go_enter Tryz.func17, Tryz.ntmps17
  go_wp2_with fail
  refine (unhide HU).mono ?_
  rintro e w' ⟨rfl, rfl⟩
  go_wp2
  go_ret2
  exact ⟨rfl, rfl⟩
theorem NoDisk.below5 {w w' : World} {p : Option Addr} (h : NoDisk w p) {B : Nat} (hb : Below B w w') (hB : w.heap.size ≤ B) : NoDisk w' p := by
  rcases h with h | ⟨Z, h, hz⟩
  · exact .inl h
  · exact .inr ⟨Z, h, by rw [hb.cell (Nat.lt_of_lt_of_le (World.block_lt_of_cell? w _ hz) hB)]; exact hz⟩
theorem nflush5 (p : Option Addr) (w : World) (h : NoDisk w p) : Calls Tryz.prog 27 #[.pointer p] w fun e w' => e = .returned (.int .i64 8) ∧ w' = w := by
  go_enter Tryz.func27, Tryz.ntmps27
  go_wp2_with fail
  refine (unmade_yes p w h).mono ?_
  rintro e w' ⟨rfl, rfl⟩
  go_wp2
  go_ret
  exact ⟨rfl, rfl⟩
theorem nlist5 (p : Option Addr) (w : World) (h : NoDisk w p) : Calls Tryz.prog 70 #[.pointer p] w fun e w' => e = .returned (.slice none 0 0) ∧ w' = w := by
  go_enter Tryz.func70, Tryz.ntmps70
  go_wp2_with fail
  refine (unmade_yes p w h).mono ?_
  rintro e w' ⟨rfl, rfl⟩
  go_wp2
  go_ret
  exact ⟨rfl, rfl⟩
theorem nnums5 (p : Option Addr) (w : World) (h : NoDisk w p) : Calls Tryz.prog 54 #[.pointer p] w fun e w' => e = .returned (.slice none 0 0) ∧ w' = w := by
  have HLI := hide (nlist5 p w h)
  clear h
  go_enter Tryz.func54, Tryz.ntmps54
  go_wp2_with fail
  refine (unhide HLI).mono ?_
  rintro e w' ⟨rfl, rfl⟩
  go_wp2_with fail
  refine wp_loop_rounds 1 ?_
  rw [rounds_succ]
  go_wp2_with fail
  go_ret
  exact ⟨rfl, rfl⟩
theorem ngather5 (B : Nat) (p : Option Addr) (w : World) (h : NoDisk w p) (c0 : w.cell? ⟨B, 0, none⟩ = some (.pointer p)) (c1 : w.cell? ⟨B, 1, none⟩ = some (.slice none 0 0)) :
    Calls Tryz.prog 38 #[.pointer (some ⟨B, 0, none⟩)] w fun e w' => e = .returned (.int .i64 0) ∧ w' = w := by
  have HNU := hide (nnums5 p w h)
  have HLA := hide (last_nil c1)
  clear h
  go_enter Tryz.func38, Tryz.ntmps38
  go_wp2_with fail
  refine (unhide HNU).mono ?_
  rintro e w' ⟨rfl, rfl⟩
  go_wp2_with fail
  refine wp_loop_rounds 1 ?_
  rw [rounds_succ]
  go_wp2_with fail
  refine (unhide HLA).mono ?_
  rintro e w' ⟨rfl, rfl⟩
  go_wp2_with fail
  go_ret
  exact ⟨rfl, rfl⟩
theorem nopen5 (p : Option Addr) (w : World) (h : NoDisk w p) : Calls Tryz.prog 21 #[.pointer p] w fun e w' => e = .returned (.tuple #[.pointer none, .int .i64 8]) ∧ Hid (Below w.heap.size w w') := by
  obtain ⟨V, hV⟩ : ∃ V, V = w.alloc (.cells #[.pointer p, .slice none 0 0] 43) := ⟨_, rfl⟩
  obtain ⟨B, hB⟩ : ∃ B, B = w.heap.size := ⟨_, rfl⟩
  have hbV : Below w.heap.size w V := by rw [hV]; exact (Below.refl _ _).alloc (Nat.le_refl _) _
  have hrV : V.heap[B]? = some (.cells #[.pointer p, .slice none 0 0] 43 (0, 0)) := by rw [hB, hV]; exact heap_alloc_new _ _
  have hn := h.below5 hbV (Nat.le_refl _)
  have HG := hide (ngather5 B p V hn (cell_of_row _ _ _ _ _ _ hrV) (cell_of_row _ _ _ _ _ _ hrV))
  have HF := hide (nflush5 p V hn)
  have HBV := hide hbV
  clear hbV hrV hn h
  go_enter Tryz.func21, Tryz.ntmps21
  go_upto_region 2 with fail
  rw [← hV, ← hB]
  clear hV hB
  go_wp2_with fail
  refine (unhide HG).mono ?_
  rintro e w' ⟨rfl, hw1⟩
  have hw2 := hw1.symm
  subst hw2
  clear hw1
  go_wp2_with fail
  refine (unhide HF).mono ?_
  rintro e w' ⟨rfl, hw1⟩
  have hw2 := hw1.symm
  subst hw2
  clear hw1
  go_wp2_with fail
  go_ret2
  exact ⟨rfl, HBV⟩
set_option maxHeartbeats 400000 in
theorem sclone_big (a : Option Addr) (n cap : Nat) (l : List UInt8) (w : World) (hr : Bs w a cap l) (hn : n = l.length) (hl : l.length ≤ 140737488355328) :
    Calls Tryz.prog 18 #[.slice a n cap] w fun e w' => ∃ a' cap' r, e = .returned (.slice a' r.length cap') ∧ Hid (r = l) ∧ OwnB w' w.heap.size a' cap' r ∧ Below w.heap.size w w' := by
  have hq := fun (wx : World) (a : Option Addr) (n c : Nat) => Lib.run_eql_slice_nil (P := Tryz.prog) wx 36 5 a n c 0 0 Tryz.underlying36
  cases a with
  | none =>
    have hl0 : l = [] := by
      apply Classical.byContradiction
      intro hne
      obtain ⟨b, off, hh, _⟩ := hr.row hne
      cases hh
    subst hl0
    go_enter Tryz.func18, Tryz.ntmps18
    go_wp2
    go_ret
    exact ⟨none, 0, [], rfl, rfl, OwnB.nil _ _, Below.refl _ _⟩
  | some ad =>
    subst hn
    go_enter Tryz.func18, Tryz.ntmps18
    go_wp2_with (at_builtin; refine wp_app _ rfl _ _ rfl w.heap.size (some ⟨w.heap.size, 0, none⟩) 0 [] rfl (own_empty w _ (Nat.le_refl _)) (some ad) cap l _ rfl rfl (hr.row.alloc _) (fun h => by cases h) ?c3 ?c4 ?_)
    case c3 => simp; omega
    case c4 => simp
    intro a2 cap2 r2 w2 hr2 ho2 hg2
    have hb2 : Below w.heap.size w w2 := below_grown (a := some ⟨w.heap.size, 0, none⟩) ((Below.refl _ _).alloc (Nat.le_refl _) _) hg2 (Nat.le_refl _) (fun k hk => by simp [blk] at hk; omega)
    have HR : Hid (r2 = l) := by
      show _ = _
      rw [hr2.out]
    clear hr2 hg2
    go_wp2
    go_ret
    exact ⟨a2, cap2, r2, rfl, HR, ho2, hb2⟩
set_option maxHeartbeats 8000000 in
theorem nobody5 (w : World) (hE : EnvS w) (a1 : Option Addr) (c1 : Nat) (b : List UInt8) (n : Int) (h1 : Bs w a1 c1 b) (hl : b.length ≤ 140737488355328) :
    Calls Tryz.prog 5 #[.slice a1 b.length c1, .int .i64 n] w fun e w' => e = .returned (.bool true) ∧ Hid (Below w.heap.size w w') := by
  obtain ⟨o, ho⟩ : ∃ o, o = Obj.cells #[.pointer none, .slice none 0 0] 43 := ⟨_, rfl⟩
  obtain ⟨X, hX⟩ : ∃ X, X = (w.alloc o).alloc (.cells #[.pointer none, .pointer (some ⟨w.heap.size, 0, none⟩)] 26) := ⟨_, rfl⟩
  have hs2 : (w.alloc o).heap.size = w.heap.size + 1 := Array.size_push _
  have hbX : Below w.heap.size w X := by rw [hX]; exact ((Below.refl _ _).alloc (Nat.le_refl _) _).alloc (by omega) _
  have hvX : X.heap[w.heap.size + 1]? = some (.cells #[.pointer none, .pointer (some ⟨w.heap.size, 0, none⟩)] 26 (0, 0)) := by rw [hX, ← hs2]; exact heap_alloc_new _ _
  have hrX : X.heap[w.heap.size]? = some (.cells #[.pointer none, .slice none 0 0] 43 (0, 0)) := by rw [hX, Below.heap_alloc _ _ _ (by omega), ho]; exact heap_alloc_new w _
  have HEX := hide hE
  have HBX : Hid (Below w.heap.size w X) := hbX
  have HB1 : Hid (Bs w a1 c1 b) := h1
  have HEL : Hid (∀ k : Nat, k < 2 → ∃ v, X.cell? ⟨w.heap.size + 1, k, none⟩ = some v ∧ UnL X v) := fun k hk => by
    match k, hk with
    | 0, _ => exact ⟨_, cell_of_row _ _ _ _ _ _ hvX, .inl rfl⟩
    | 1, _ => exact ⟨_, cell_of_row _ _ _ _ _ _ hvX, .inr ⟨_, rfl, cell_of_row _ _ _ _ _ _ hrX⟩⟩
  rw [ho] at hX
  clear hE h1 ho o hs2 hbX hvX hrX
  go_enter Tryz.func5, Tryz.ntmps5
  go_wp2_with fail
  rw [← hX]
  clear hX
  refine wp_loop_rounds 3 ?_
  rw [rounds_succ]
  obtain ⟨v0, hc0, hu0⟩ := unhide HEL 0 (by omega)
  have HUN0 := hide hu0
  have HBP0 : Hid (Below X.heap.size X X) := Below.refl _ _
  have hd0 : X.cell? ⟨w.heap.size + 1, 0, none⟩ = some v0 := by rw [(unhide HBP0).cell (World.block_lt_of_cell? X _ hc0)]; exact hc0
  have HC0 := hide (sclone_big a1 b.length c1 b X ((unhide HB1).below ((unhide HBX).trans ((unhide HBP0).mono (unhide HBX).size)) (Nat.le_refl _)) rfl hl)
  clear hc0 hu0
  go_wp2_with fail
  refine (unhide HC0).mono ?_
  rintro e W0 ⟨a0x, c0x, r0x, rfl, -, -, hbZ⟩
  have HP0 : Hid (Below X.heap.size X W0) := (unhide HBP0).trans (hbZ.mono (unhide HBP0).size)
  have HUW := hide ((unhide HUN0).below (unhide HP0) (Nat.le_refl _))
  clear HC0 hbZ hd0 HUN0 HBP0
  go_wp2_with fail
  refine (appendU v0 (.slice a0x r0x.length c0x) W0 (unhide HUW)).mono ?_
  rintro e w' ⟨rfl, hw1⟩
  have hw2 := hw1.symm
  subst hw2
  clear hw1
  go_wp2_with fail
  refine (syncU v0 W0 (unhide HUW)).mono ?_
  rintro e w' ⟨rfl, hw1⟩
  have hw2 := hw1.symm
  subst hw2
  clear hw1
  go_wp2_with fail
  refine (trimU v0 n W0 (unhide HUW)).mono ?_
  rintro e w' ⟨rfl, hw1⟩
  have hw2 := hw1.symm
  subst hw2
  clear hw1
  go_wp2_with fail
  refine (readU v0 n W0 (unhide HUW)).mono ?_
  rintro e w' ⟨rfl, hw1⟩
  have hw2 := hw1.symm
  subst hw2
  clear hw1
  go_wp2_with fail
  refine (firstU v0 W0 (unhide HUW)).mono ?_
  rintro e w' ⟨rfl, hw1⟩
  have hw2 := hw1.symm
  subst hw2
  clear hw1
  go_wp2_with fail
  refine (nextU v0 W0 (unhide HUW)).mono ?_
  rintro e w' ⟨rfl, hw1⟩
  have hw2 := hw1.symm
  subst hw2
  clear hw1
  go_wp2_with fail
  refine (segmentsU v0 W0 (unhide HUW)).mono ?_
  rintro e w' ⟨rfl, hw1⟩
  have hw2 := hw1.symm
  subst hw2
  clear hw1
  go_wp2_with fail
  refine (bytesU v0 W0 (unhide HUW)).mono ?_
  rintro e w' ⟨rfl, hw1⟩
  have hw2 := hw1.symm
  subst hw2
  clear hw1
  clear HUW
  go_wp2_with fail
  rw [rounds_succ]
  obtain ⟨v1, hc1, hu1⟩ := unhide HEL 1 (by omega)
  have HUN1 := hide hu1
  have HBP1 : Hid (Below X.heap.size X W0) := unhide HP0
  have hd1 : W0.cell? ⟨w.heap.size + 1, 1, none⟩ = some v1 := by rw [(unhide HBP1).cell (World.block_lt_of_cell? X _ hc1)]; exact hc1
  have HC1 := hide (sclone_big a1 b.length c1 b W0 ((unhide HB1).below ((unhide HBX).trans ((unhide HBP1).mono (unhide HBX).size)) (Nat.le_refl _)) rfl hl)
  clear hc1 hu1
  go_wp2_with fail
  refine (unhide HC1).mono ?_
  rintro e W1 ⟨a1x, c1x, r1x, rfl, -, -, hbZ⟩
  have HP1 : Hid (Below X.heap.size X W1) := (unhide HBP1).trans (hbZ.mono (unhide HBP1).size)
  have HUW := hide ((unhide HUN1).below (unhide HP1) (Nat.le_refl _))
  clear HC1 hbZ hd1 HUN1 HBP1
  go_wp2_with fail
  refine (appendU v1 (.slice a1x r1x.length c1x) W1 (unhide HUW)).mono ?_
  rintro e w' ⟨rfl, hw1⟩
  have hw2 := hw1.symm
  subst hw2
  clear hw1
  go_wp2_with fail
  refine (syncU v1 W1 (unhide HUW)).mono ?_
  rintro e w' ⟨rfl, hw1⟩
  have hw2 := hw1.symm
  subst hw2
  clear hw1
  go_wp2_with fail
  refine (trimU v1 n W1 (unhide HUW)).mono ?_
  rintro e w' ⟨rfl, hw1⟩
  have hw2 := hw1.symm
  subst hw2
  clear hw1
  go_wp2_with fail
  refine (readU v1 n W1 (unhide HUW)).mono ?_
  rintro e w' ⟨rfl, hw1⟩
  have hw2 := hw1.symm
  subst hw2
  clear hw1
  go_wp2_with fail
  refine (firstU v1 W1 (unhide HUW)).mono ?_
  rintro e w' ⟨rfl, hw1⟩
  have hw2 := hw1.symm
  subst hw2
  clear hw1
  go_wp2_with fail
  refine (nextU v1 W1 (unhide HUW)).mono ?_
  rintro e w' ⟨rfl, hw1⟩
  have hw2 := hw1.symm
  subst hw2
  clear hw1
  go_wp2_with fail
  refine (segmentsU v1 W1 (unhide HUW)).mono ?_
  rintro e w' ⟨rfl, hw1⟩
  have hw2 := hw1.symm
  subst hw2
  clear hw1
  go_wp2_with fail
  refine (bytesU v1 W1 (unhide HUW)).mono ?_
  rintro e w' ⟨rfl, hw1⟩
  have hw2 := hw1.symm
  subst hw2
  clear hw1
  clear HUW
  go_wp2_with fail
  rw [rounds_succ]
  have HBW : Hid (Below w.heap.size w W1) := (unhide HBX).trans ((unhide HP1).mono (unhide HBX).size)
  obtain ⟨o, ho⟩ : ∃ o, o = Obj.cells #[.int .i64 0, .map none, .map none, .slice none 0 0, .map none, .int .i64 0] 54 := ⟨_, rfl⟩
  obtain ⟨Y, hY⟩ : ∃ Y, Y = (W1.alloc o).alloc (.cells #[.pointer none, .pointer (some ⟨W1.heap.size, 0, none⟩)] 25) := ⟨_, rfl⟩
  have hs2 : (W1.alloc o).heap.size = W1.heap.size + 1 := Array.size_push _
  have hbY : Below W1.heap.size W1 Y := by rw [hY]; exact ((Below.refl _ _).alloc (Nat.le_refl _) _).alloc (by omega) _
  have hvY : Y.heap[W1.heap.size + 1]? = some (.cells #[.pointer none, .pointer (some ⟨W1.heap.size, 0, none⟩)] 25 (0, 0)) := by rw [hY, ← hs2]; exact heap_alloc_new _ _
  have hrY : Y.heap[W1.heap.size]? = some (.cells #[.int .i64 0, .map none, .map none, .slice none 0 0, .map none, .int .i64 0] 54 (0, 0)) := by rw [hY, Below.heap_alloc _ _ _ (by omega), ho]; exact heap_alloc_new W1 _
  have HBY : Hid (Below w.heap.size w Y) := (unhide HBW).trans (hbY.mono (unhide HBW).size)
  have HEM : Hid (∀ k : Nat, k < 2 → ∃ p, Y.cell? ⟨W1.heap.size + 1, k, none⟩ = some (.pointer p) ∧ NoDisk Y p) := fun k hk => by
    match k, hk with
    | 0, _ => exact ⟨_, cell_of_row _ _ _ _ _ _ hvY, .inl rfl⟩
    | 1, _ => exact ⟨_, cell_of_row _ _ _ _ _ _ hvY, .inr ⟨_, rfl, cell_of_row _ _ _ _ _ _ hrY⟩⟩
  rw [ho] at hY
  clear ho o hs2 hbY hvY hrY HEL HBX HB1 HP0 HP1 HBW
  go_wp2_with fail
  rw [← hY]
  clear hY
  refine wp_loop_rounds 3 ?_
  rw [rounds_succ]
  obtain ⟨p0, hc0, hu0⟩ := unhide HEM 0 (by omega)
  have HBP0 : Hid (Below Y.heap.size Y Y) := Below.refl _ _
  have hd0 : Y.cell? ⟨W1.heap.size + 1, 0, none⟩ = some (.pointer p0) := by rw [(unhide HBP0).cell (World.block_lt_of_cell? Y _ hc0)]; exact hc0
  have HO0 := hide (nopen5 p0 Y (hu0.below5 (unhide HBP0) (Nat.le_refl _)))
  clear hc0 hu0
  go_wp2_with fail
  refine (unhide HO0).mono ?_
  rintro e Z0 ⟨rfl, HZ⟩
  have HQ0 : Hid (Below Y.heap.size Y Z0) := (unhide HBP0).trans ((unhide HZ).mono (unhide HBP0).size)
  clear HO0 HZ hd0 HBP0
  go_wp2_with fail
  rw [rounds_succ]
  obtain ⟨p1, hc1, hu1⟩ := unhide HEM 1 (by omega)
  have HBP1 : Hid (Below Y.heap.size Y Z0) := unhide HQ0
  have hd1 : Z0.cell? ⟨W1.heap.size + 1, 1, none⟩ = some (.pointer p1) := by rw [(unhide HBP1).cell (World.block_lt_of_cell? Y _ hc1)]; exact hc1
  have HO1 := hide (nopen5 p1 Z0 (hu1.below5 (unhide HBP1) (Nat.le_refl _)))
  clear hc1 hu1
  go_wp2_with fail
  refine (unhide HO1).mono ?_
  rintro e Z1 ⟨rfl, HZ⟩
  have HQ1 : Hid (Below Y.heap.size Y Z1) := (unhide HBP1).trans ((unhide HZ).mono (unhide HBP1).size)
  clear HO1 HZ hd1 HBP1
  go_wp2_with fail
  rw [rounds_succ]
  have HAW := hide (awake5 w (fun _ => .o) Z1 (unhide HEX) ⟨(unhide HBY).trans ((unhide HQ1).mono (unhide HBY).size), fun _ _ => rfl⟩)
  go_wp2_with fail
  refine (unhide HAW).mono ?_
  rintro e V2 ⟨rfl, HB2⟩
  go_wp2_with fail
  go_ret
  exact ⟨rfl, HB2⟩
theorem seglogNobody_walk (a0 : Option Addr) (c0 : Nat) (l0 : List UInt8) (n : Int) (w : World) (h0 : Bs w a0 c0 l0) (hl : l0.length ≤ 140737488355328) (hE : EnvS w) :
    Calls Tryz.prog 5 #[.slice a0 l0.length c0, .int .i64 n] w fun e w' => e = .returned (.bool true) ∧ Below w.heap.size w w' :=
  (nobody5 w hE a0 c0 l0 n h0 hl).mono fun e w' h => ⟨h.1, unhide h.2⟩
#print axioms seglogNobody_walk
end Go.Proofs.YtneclcihjbkhlabGreatDoor
end
