/-
  disk: Flush.
-/
import Derived.Test.YtkhpjlgbiicdcaaDskI
set_option linter.unusedVariables false
namespace Go.Proofs.Ytkhpjlgbiicdcaa
open Go.RowKit Go.Maps

/-- An act lasts, and its name is counted anew. -/
def Md.lasts (M : Md) (a : Ac) : Md := { M with last := doF M.last a, lastN := doN M.last M.lastN a }
def Md.land (M : Md) (a : Ac) : Md := (M.lasts a).settle a.n
def Md.flush (M : Md) : Md := { M.pend.foldl Md.land M with pend := [] }
theorem land_pend (l : List Ac) (M : Md) : (l.foldl Md.land M).pend = M.pend ∧ (l.foldl Md.land M).seen = M.seen ∧ (l.foldl Md.land M).seenN = M.seenN ∧ (l.foldl Md.land M).room = M.room := by
  induction l generalizing M with
  | nil => exact ⟨rfl, rfl, rfl, rfl⟩
  | cons a r ih => exact ih (M.land a)
theorem land_last (l : List Ac) (M : Md) : (l.foldl Md.land M).last = l.foldl doF M.last := by
  induction l generalizing M with
  | nil => rfl
  | cons a r ih => exact ih (M.land a)
theorem land_lastN (l : List Ac) (M : Md) : (l.foldl Md.land M).lastN ≤ M.lastN + l.length := by
  induction l generalizing M with
  | nil => simp
  | cons a r ih =>
    have h1 := ih (M.land a)
    have h2 : (M.land a).lastN ≤ M.lastN + 1 := doN_le _ _ _
    simp only [List.foldl_cons, List.length_cons]
    omega
theorem fold_len {B : Nat} : ∀ (l : List Ac) (f : Files), (∀ n, (fget f n).length ≤ B) → (∀ a ∈ l, a.p + a.b.length ≤ B) → ∀ n, (fget (l.foldl doF f) n).length ≤ B
  | [], f, h, _ => h
  | a :: r, f, h, h' => fold_len r (doF f a) (doF_len h (h' a (by simp))) (fun b hb => h' b (by simp [hb]))
theorem take_snoc {α : Type} {l : List α} {k : Nat} {x : α} (h : l[k]? = some x) : l.take (k + 1) = l.take k ++ [x] := by
  rw [List.take_add_one, h]; rfl

theorem perf2L {w w' : World} {g g' : Nat → Tg} {i : Nat} {J : DJ} {M : Md} {Z : Nat} {a : Ac} {y : Option Addr} {cy : Nat} {f : Files} {c : Nat} (h : PS w g i J M Z a y cy) (hf : Hid (FM w' g' (.lr i) J.L f c)) (x : Hid (St w w' g g' (fun t => t = g J.L ∨ t = .lr i a.n))) :
    PS w' g' i J { M with last := f, lastN := c } Z a y cy ∧ St w w' g g' (fun t => t.of i) := by
  have x' := unhide x
  rw [h.ds.gL] at x'
  refine ⟨h.step x' (by rintro (e | e) <;> cases e) (by rintro (e | e) <;> cases e) (h.ds.doLast (unhide hf) x'), x'.mono (fun t e => ?_)⟩
  rcases e with e | e <;> (rw [e]; rfl)
/-- The disk with nothing pending. -/
theorem DS.clr {w : World} {g : Nat → Tg} {i : Nat} {J : DJ} {M : Md} (h : DS w g i J M) : DS (w.setCell ⟨J.D, 3, none⟩ (.slice none 0 0)) g i { J with P := none, pc := 0 } { M with pend := [] } ∧ St w (w.setCell ⟨J.D, 3, none⟩ (.slice none 0 0)) g g (fun t => t.of i) := by
  have x : St w (w.setCell ⟨J.D, 3, none⟩ (.slice none 0 0)) g g (fun t => t = .d i) := St.ofG (grownBy_setCell w ⟨J.D, 3, none⟩ _) (fun k hk => by rw [← Option.some.inj hk]; exact h.gD)
  refine ⟨⟨?_, h.gD, h.gL, h.gS, h.gK, (fun k hk => by cases hk), h.fl.st x ?_ ?_, h.fs.st x ?_ ?_, h.pk.st x ?_, [], rfl, OwnA.nil _, (fun t ht => by simp at ht)⟩, x.mono (fun t e => by rw [e]; rfl)⟩
  · simp only [World.setCell, Array.getElem?_modify]
    rw [if_pos trivial, h.dsk]
    rfl
  · rw [h.gL]; intro e; cases e
  · intro m e; cases e
  · rw [h.gS]; intro e; cases e
  · intro m e; cases e
  · rw [h.gK]; intro e; cases e

/-- A box for an act of a row, laid in a round. -/
theorem box_laid {w : World} {g : Nat → Tg} {i : Nat} {J : DJ} {M : Md} (h : DS w g i J M) (t : At) (ht : Bs w t.2.1 t.2.2 t.1.b ∧ ∀ k, blk t.2.1 = some k → k < w.heap.size ∧ g k = .a i) (u : World) (hB : Below w.heap.size w u) (hbox : Box u w.heap.size (.int .i64 (t.1.k : Int)) (.string (str t.1.n)) (.int .i64 (t.1.p : Int)) (.slice t.2.1 t.1.b.length t.2.2)) :
    ∃ g', PS u g' i J M w.heap.size t.1 t.2.1 t.2.2 ∧ St w u g g' (fun t => t.of i) := by
  have x : ∀ S, St w u g (fun k => if k < w.heap.size then g k else .o) S := fun S => ⟨hB.os, hB.tape, hB.output, hB.size, fun k hk _ => hB.block k hk, fun k hk => by simp [hk]⟩
  refine ⟨fun k => if k < w.heap.size then g k else .o, ⟨h.st (x (fun _ => False)) (fun _ _ e => e), hbox, by simp, ht.1.below hB (Nat.le_refl _), fun k hk => ⟨Nat.lt_of_lt_of_le (ht.2 k hk).1 hB.size, ?_⟩⟩, x _⟩
  simp only [(ht.2 k hk).1, if_true]
  exact (ht.2 k hk).2

theorem MOk.flush {J J' : DJ} {M : Md} {N : Nat} (h : MOk J M N) (hJ : J'.kc = J.kc + M.pend.length) : MOk J' M.flush (N + 1) := by
  have g := h.mono (Nat.le_succ N)
  have e := land_pend M.pend M
  have eN := land_lastN M.pend M
  refine ⟨?_, ?_, ?_, ?_, ?_, ?_, ?_, fun a ha => by simp [Md.flush] at ha⟩
  · show 0 ≤ (M.pend.foldl Md.land M).room; rw [e.2.2.2]; exact h.r0
  · show (M.pend.foldl Md.land M).room ≤ _; rw [e.2.2.2]; exact h.r1
  · show (M.pend.foldl Md.land M).lastN + 0 ≤ N + 1; have := h.ln; omega
  · show (M.pend.foldl Md.land M).seenN ≤ N + 1; rw [e.2.2.1]; exact g.sn
  · show J'.kc + 0 ≤ _; have := h.kc; omega
  · intro n; show (fget (M.pend.foldl Md.land M).seen n).length ≤ _; rw [e.2.1]; exact g.sl n
  · intro n; show (fget (M.pend.foldl Md.land M).last n).length ≤ _; rw [land_last]; exact fold_len _ _ g.ll (fun b hb => (g.pe b hb).2.2) n
def landTo (M : Md) (k : Nat) : Md := (M.pend.take k).foldl Md.land M

set_option maxRecDepth 20000 in
set_option maxHeartbeats 4000000 in
theorem flush_any (g : Nat → Tg) (i : Nat) (J : DJ) (M : Md) (N : Nat) (w : World) (h : DS w g i J M) (ok : MOk J M N) (hN : N ≤ 1400) :
    Calls Try.prog 32 #[.pointer (some ⟨J.D, 0, none⟩)] w fun e w' => e = .returned (.int .i64 0) ∧ RS w w' g i J M.flush (N + 1) := by
  have c2 := h.c2
  have c3 := h.c3
  have hpl : M.pend.length ≤ 1400 := by have := ok.ln; omega
  go_enter Try.func32, Try.ntmps32
  go_wp2_with fail
  refine (unmade_not J.D J.S w c2).mono ?_
  rintro e w' ⟨rfl, rfl⟩
  go_wp2
  go_loopw [12] (fun v wr => ∃ (k : Nat) (gk : Nat → Tg), k ≤ M.pend.length ∧ v = .int .i64 (k : Int) ∧ Hid (DS wr gk i { J with kc := J.kc + k } (landTo M k)) ∧ Hid (St w' wr g gk (fun t => t.of i))) (fun v _ => M.pend.length - (intOf v).toNat)
  case atStart => exact ⟨0, g, Nat.zero_le _, rfl, h, St.refl _ _ _⟩
  case round =>
    obtain ⟨k, gk, hk, rfl, HD, HS⟩ := hrel
    by_cases hlt : k < M.pend.length
    · have hlt2 : (k : Int) < (M.pend.length : Int) := by omega
      obtain ⟨l, hl1, hlo, hl3⟩ := (unhide HD).pd
      simp only at hlo
      have hpe : (landTo M k).pend = M.pend := (land_pend _ _).1
      obtain ⟨t, ht⟩ : ∃ t, l[k]? = some t := by
        have : k < l.length := by have := congrArg List.length hl1; rw [hpe] at this; simp at this; omega
        exact ⟨_, List.getElem?_eq_getElem this⟩
      obtain ⟨G, hG, a0, a1, a2, a3⟩ := hlo.at ht
      have HTk : Hid (M.pend[k]? = some t.1) := by
        show _ = _
        rw [← hpe, ← hl1, List.getElem?_map, ht]; rfl
      have HT3 := hide (hl3 t (List.mem_of_getElem? ht))
      clear hl1 hlo hl3 hpe ht
      have c3' : Hid (J.P = some ⟨G, 0, none⟩) := hG
      obtain ⟨u, hu⟩ : ∃ u, u = wr.alloc (.cells #[.int .i64 (t.1.k : Int), .string (str t.1.n), .int .i64 (t.1.p : Int), .slice t.2.1 t.1.b.length t.2.2] 63) := ⟨_, rfl⟩
      have hBu : Below wr.heap.size wr u.drew := by rw [hu]; exact ((Below.refl _ _).alloc (Nat.le_refl _) _).drew
      have hbx : Box u.drew wr.heap.size (.int .i64 (t.1.k : Int)) (.string (str t.1.n)) (.int .i64 (t.1.p : Int)) (.slice t.2.1 t.1.b.length t.2.2) := by unfold Box; rw [hu]; exact heap_alloc_new wr _
      obtain ⟨g1, p1, st1⟩ := box_laid (unhide HD) t (unhide HT3) u.drew hBu hbx
      have P1 := hide p1
      have ST1 := hide ((unhide HS).trans st1)
      have hS1 := And.intro p1.ds.c1 p1.box.cells
      have hby := p1.by'
      have hfl := p1.ds.fl
      have htL := p1.ds.trL
      have hxt : ∀ j, blk t.2.1 = some j → g1 j ≠ .lr i t.1.n := fun j hj e => by have := (p1.ty j hj).2; rw [e] at this; cases this
      obtain ⟨hk2, hn24, hpb⟩ := ok.pe t.1 (List.mem_of_getElem? (unhide HTk))
      have hl0 : ∀ n, (fget (landTo M k).last n).length ≤ N * 65536 := by
        intro n
        unfold landTo
        rw [land_last]
        exact fold_len _ _ ok.ll (fun b hb => (ok.pe b (List.mem_of_mem_take hb)).2.2) n
      have hlN : (landTo M k).lastN ≤ 1400 := by
        have h1 := land_lastN (M.pend.take k) M
        have h2 := ok.ln
        unfold landTo
        simp at h1
        omega
      have hl' : (fget (landTo M k).last t.1.n).length ≤ 1000000000 := by have := hl0 t.1.n; omega
      have hsl' : (fget (landTo M k).seen t.1.n).length ≤ 1000000000 := by
        have h1 : (landTo M k).seen = M.seen := (land_pend _ _).2.1
        rw [h1]
        have := ok.sl t.1.n
        omega
      have hn1 : t.1.n.length ≤ 1000 := by omega
      have hp1 : t.1.p ≤ 1000000000 := by omega
      have hb1 : t.1.b.length ≤ 1000000000 := by omega
      have hc1 : (landTo M k).lastN ≤ 1000000000 := by omega
      have hkc : J.kc + k ≤ 1000000 := by have := ok.kc; omega
      have HU := hide hu
      simp only at hS1
      clear hu hBu hbx p1 st1 hl0 hlN hpb
      go_wp2_with fail
      rw [← unhide HU, ← unhide c3']
      clear hG a0 a1 a2 a3 HU
      go_upto_region 6 with fail
      go_cut [] (fun wx => ∃ g2, PS wx g2 i { J with kc := J.kc + k } ((landTo M k).lasts t.1) wr.heap.size t.1 t.2.1 t.2.2 ∧ St w' wx g g2 (fun t => t.of i))
      case first =>
        go_region_held3 (fun w' => w'.cell? ⟨J.D, 1, none⟩ = some (.map (some J.L)) ∧ w'.cell? ⟨wr.heap.size, 0, none⟩ = some (.int .i64 (t.1.k : Int)) ∧ w'.cell? ⟨wr.heap.size, 1, none⟩ = some (.string (str t.1.n)) ∧ w'.cell? ⟨wr.heap.size, 2, none⟩ = some (.int .i64 (t.1.p : Int)) ∧ w'.cell? ⟨wr.heap.size, 3, none⟩ = some (.slice t.2.1 t.1.b.length t.2.2)) (first | exact hS1 | exact And.intro p2.ds.c1 p2.box.cells) ((go_at_call 34; refine (do_any g1 (.lr i) J.L (landTo M k).last (landTo M k).lastN t.1 (t.1.k : Int) (t.1.p : Int) t.2.1 t.2.2 _ hfl htL rfl hk2 hn1 rfl hby hxt hl' hp1 hb1 hc1).mono ?_; rintro e w2 ⟨rfl, g2, HF, HT⟩; obtain ⟨p2, st2⟩ := perf2L (unhide P1) HF HT))
        all_goals (go_wp2_with fail; go_meet; exact ⟨g2, p2, (unhide ST1).trans st2⟩)
      case rest =>
        obtain ⟨g2, p2, st2⟩ := hcut
        have b1 := p2.box.cells.2.1
        have D2 := hide p2.ds
        have ST2 := hide st2
        clear p2 st2 hS1 hby hfl htL hxt P1 ST1
        go_wp2_with fail
        refine (settle_any g2 i { J with kc := J.kc + k } ((landTo M k).lasts t.1) t.1.n _ (unhide D2) hn1 hkc hsl').mono ?_
        rintro e w3 ⟨rfl, HD3, HS3⟩
        have HF3 : Hid (DS w3 g2 i { J with kc := J.kc + (k + 1) } (landTo M (k + 1))) := by
          have e : landTo M (k + 1) = ((landTo M k).lasts t.1).settle t.1.n := by
            unfold landTo
            rw [take_snoc (unhide HTk), List.foldl_append]
            rfl
          rw [e]
          exact HD3
        have HS4 : Hid (St w' w3 g g2 (fun t => t.of i)) := (unhide ST2).trans ((unhide HS3).mono (fun t e => by rcases e with e | e <;> (rw [e]; rfl)))
        clear HD3 HS3 ST2 D2
        go_wp2
        go_roundw
        case rel => exact ⟨k + 1, g2, by omega, by go_num, HF3, HS4⟩
        case measure => simp [intOf]; omega
    · obtain rfl : k = M.pend.length := by omega
      have HF : Hid (landTo M M.pend.length = M.pend.foldl Md.land M) := by show _ = _; unfold landTo; rw [List.take_length]
      have hcl := (unhide HD).clr
      have q3 := (unhide HD).c3
      have f3 := (unhide HD).fr 3
      simp only at q3 f3
      have HC := hide hcl
      clear hcl
      go_wp2
      go_ret
      refine ⟨rfl, gk, { J with P := none, pc := 0, kc := J.kc + M.pend.length }, ?_, ok.flush rfl, (unhide HS).trans (unhide HC).2, rfl⟩
      · show DS _ _ _ _ _
        have := (unhide HC).1
        rw [unhide HF] at this
        exact this
#print axioms flush_any
end Go.Proofs.Ytkhpjlgbiicdcaa
