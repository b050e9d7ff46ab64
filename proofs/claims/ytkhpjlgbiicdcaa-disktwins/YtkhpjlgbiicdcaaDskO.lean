/-
  disk: Crash.
-/
import Derived.Test.YtkhpjlgbiicdcaaDskN
set_option linter.unusedVariables false
namespace Go.Proofs.Ytkhpjlgbiicdcaa
open Go.RowKit Go.Maps

def Md.reseen (M : Md) : Md := { M with seen := M.last, seenN := M.lastN }
def Md.crash (M : Md) (kl : List Bool) (z : Int) : Md :=
  { M.pend.foldl (fun m a => m.settle a.n) ((tornLast (keptL M.pend kl) z).foldl Md.lasts M).reseen with pend := [] }
theorem lasts_keep (l : List Ac) (M : Md) : (l.foldl Md.lasts M).pend = M.pend ∧ (l.foldl Md.lasts M).seen = M.seen ∧ (l.foldl Md.lasts M).seenN = M.seenN ∧ (l.foldl Md.lasts M).room = M.room ∧ (l.foldl Md.lasts M).peaks = M.peaks ∧ (l.foldl Md.lasts M).used = M.used := by
  induction l generalizing M with
  | nil => exact ⟨rfl, rfl, rfl, rfl, rfl, rfl⟩
  | cons a r ih => exact ih (M.lasts a)
theorem lasts_last (l : List Ac) (M : Md) : (l.foldl Md.lasts M).last = l.foldl doF M.last := by
  induction l generalizing M with
  | nil => rfl
  | cons a r ih => exact ih (M.lasts a)
theorem lasts_lastN (l : List Ac) (M : Md) : (l.foldl Md.lasts M).lastN ≤ M.lastN + l.length := by
  induction l generalizing M with
  | nil => simp
  | cons a r ih =>
    have h1 := ih (M.lasts a)
    have h2 : (M.lasts a).lastN ≤ M.lastN + 1 := doN_le _ _ _
    simp only [List.foldl_cons, List.length_cons]
    omega
theorem settles_keep (l : List Ac) (M : Md) : (l.foldl (fun m a => m.settle a.n) M).pend = M.pend ∧ (l.foldl (fun m a => m.settle a.n) M).seen = M.seen ∧ (l.foldl (fun m a => m.settle a.n) M).seenN = M.seenN ∧ (l.foldl (fun m a => m.settle a.n) M).room = M.room ∧ (l.foldl (fun m a => m.settle a.n) M).last = M.last ∧ (l.foldl (fun m a => m.settle a.n) M).lastN = M.lastN := by
  induction l generalizing M with
  | nil => exact ⟨rfl, rfl, rfl, rfl, rfl, rfl⟩
  | cons a r ih => exact ih (M.settle a.n)
theorem tornLast_len (l : List Ac) (z : Int) : (tornLast l z).length = l.length := by
  rcases List.eq_nil_or_concat l with rfl | ⟨r, t, rfl⟩
  · rfl
  · rw [List.concat_eq_append, tornLast_snoc]; simp
theorem tornLast_mem {l : List Ac} {z : Int} {a : Ac} (h : a ∈ tornLast l z) : ∃ b ∈ l, a.k = b.k ∧ a.n = b.n ∧ a.p = b.p ∧ a.b.length ≤ b.b.length := by
  rcases List.eq_nil_or_concat l with rfl | ⟨r, t, rfl⟩
  · simp [tornLast] at h
  · rw [List.concat_eq_append] at h ⊢
    rw [tornLast_snoc] at h
    rcases List.mem_append.1 h with h' | h'
    · exact ⟨a, List.mem_append_left _ h', rfl, rfl, rfl, Nat.le_refl _⟩
    · rw [List.mem_singleton.1 h']
      exact ⟨t, by simp, torn_k t z, torn_n t z, torn_p t z, torn_b t z⟩
theorem torn_pe {J : DJ} {M : Md} {N : Nat} (ok : MOk J M N) {kl : List Bool} {z : Int} {a : Ac} (h : a ∈ tornLast (keptL M.pend kl) z) : a.k ≤ 2 ∧ a.n.length ≤ 24 ∧ a.p + a.b.length ≤ N * 65536 := by
  obtain ⟨b, hb, e1, e2, e3, e4⟩ := tornLast_mem h
  have := ok.pe b (keptL_mem _ _ _ hb)
  rw [e1, e2, e3]
  exact ⟨this.1, this.2.1, by omega⟩
theorem MOk.crash {J J' : DJ} {M : Md} {N : Nat} {kl : List Bool} {z : Int} (h : MOk J M N) (hJ : J'.kc = J.kc + M.pend.length) : MOk J' (M.crash kl z) (N + 1) := by
  have g := h.mono (Nat.le_succ N)
  obtain ⟨e1, e2, e3, e4, e5, e6⟩ := settles_keep M.pend ((tornLast (keptL M.pend kl) z).foldl Md.lasts M).reseen
  have k := lasts_keep (tornLast (keptL M.pend kl) z) M
  have kN := lasts_lastN (tornLast (keptL M.pend kl) z) M
  rw [tornLast_len] at kN
  have kl' := keptL_len M.pend kl
  have hlN : ((tornLast (keptL M.pend kl) z).foldl Md.lasts M).lastN ≤ N := by have := h.ln; omega
  have hlen : ∀ n, (fget ((tornLast (keptL M.pend kl) z).foldl Md.lasts M).last n).length ≤ (N + 1) * 65536 := by
    intro n
    rw [lasts_last]
    exact fold_len _ _ g.ll (fun b hb => (torn_pe g hb).2.2) n
  refine ⟨?_, ?_, ?_, ?_, ?_, ?_, ?_, fun a ha => by simp [Md.crash] at ha⟩
  · show 0 ≤ (List.foldl _ _ _ : Md).room; rw [e4]; show 0 ≤ (List.foldl Md.lasts M _ : Md).room; rw [k.2.2.2.1]; exact h.r0
  · show (List.foldl _ _ _ : Md).room ≤ _; rw [e4]; show (List.foldl Md.lasts M _ : Md).room ≤ _; rw [k.2.2.2.1]; exact h.r1
  · show (List.foldl _ _ _ : Md).lastN + 0 ≤ _; rw [e6]; show (List.foldl Md.lasts M _ : Md).lastN + 0 ≤ _; omega
  · show (List.foldl _ _ _ : Md).seenN ≤ _; rw [e3]; show (List.foldl Md.lasts M _ : Md).lastN ≤ _; omega
  · show J'.kc + 0 ≤ _; have := h.kc; omega
  · intro n; show (fget (List.foldl _ _ _ : Md).seen n).length ≤ _; rw [e2]; exact hlen n
  · intro n; show (fget (List.foldl _ _ _ : Md).last n).length ≤ _; rw [e5]; exact hlen n

theorem perf2K {w w' : World} {g g' : Nat → Tg} {i : Nat} {J : DJ} {M : Md} {Z : Nat} {a : Ac} {y : Option Addr} {cy : Nat} {f : Files} {c : Nat} (h : PS w g i J M Z a y cy) (hf : Hid (FM w' g' (.lr i) J.L f c)) (x : Hid (St w w' g g' (fun t => t = g J.L ∨ t = .lr i a.n))) :
    PS w' g' i J { M with last := f, lastN := c } Z a y cy ∧ St w w' g g' (fun t => t = .l i ∨ ∃ n, t = .lr i n) := by
  have x' := unhide x
  rw [h.ds.gL] at x'
  exact ⟨h.step x' (by rintro (e | e) <;> cases e) (by rintro (e | e) <;> cases e) (h.ds.doLast (unhide hf) x'), x'.mono (fun t e => e.imp id (fun e => ⟨_, e⟩))⟩
theorem box_laidK {w : World} {g : Nat → Tg} {i : Nat} {J : DJ} {M : Md} (h : DS w g i J M) (t : At) (ht : Bs w t.2.1 t.2.2 t.1.b ∧ ∀ k, blk t.2.1 = some k → k < w.heap.size ∧ g k = .a i) (u : World) (hB : Below w.heap.size w u) (hbox : Box u w.heap.size (.int .i64 (t.1.k : Int)) (.string (str t.1.n)) (.int .i64 (t.1.p : Int)) (.slice t.2.1 t.1.b.length t.2.2)) (S : Tg → Prop) :
    ∃ g', PS u g' i J M w.heap.size t.1 t.2.1 t.2.2 ∧ St w u g g' S := by
  have x : ∀ S, St w u g (fun k => if k < w.heap.size then g k else .o) S := fun S => ⟨hB.os, hB.tape, hB.output, hB.size, fun k hk _ => hB.block k hk, fun k hk => by simp [hk]⟩
  refine ⟨fun k => if k < w.heap.size then g k else .o, ⟨h.st (x (fun _ => False)) (fun _ _ e => e), hbox, by simp, ht.1.below hB (Nat.le_refl _), fun k hk => ⟨Nat.lt_of_lt_of_le (ht.2 k hk).1 hB.size, ?_⟩⟩, x _⟩
  simp only [(ht.2 k hk).1, if_true]
  exact (ht.2 k hk).2

/-- Other files are seen. -/
theorem DS.newSeen {w w' : World} {g g' : Nat → Tg} {i : Nat} {J : DJ} {M : Md} (h : DS w g i J M) {B : Nat} (hf : FM w' g' (.sr i) B M.last M.lastN) (hb : Below w.heap.size w w') (ha : ∀ k, k < w.heap.size → g' k = g k) (hB : g' B = .s i) :
    DS (w'.setCell ⟨J.D, 2, none⟩ (.map (some B))) g' i { J with S := B } M.reseen ∧ St w (w'.setCell ⟨J.D, 2, none⟩ (.map (some B))) g g' (fun t => t.of i) := by
  have x0 : St w w' g g' (fun _ => False) := ⟨hb.os, hb.tape, hb.output, hb.size, fun k hk _ => hb.block k hk, ha⟩
  have h0 := h.st x0 (fun _ _ e => e)
  have x1 : St w' (w'.setCell ⟨J.D, 2, none⟩ (.map (some B))) g' g' (fun t => t = .d i) := St.ofG (grownBy_setCell w' ⟨J.D, 2, none⟩ _) (fun k hk => by rw [← Option.some.inj hk]; exact h0.gD)
  refine ⟨⟨?_, h0.gD, h0.gL, hB, h0.gK, h0.gP, h0.fl.st x1 ?_ ?_, hf.st x1 ?_ ?_, h0.pk.st x1 ?_, ?_⟩, (x0.mono (fun t e => e.elim)).trans (x1.mono (fun t e => by rw [e]; rfl))⟩
  · simp only [World.setCell, Array.getElem?_modify]
    rw [if_pos trivial, h0.dsk]
    rfl
  · rw [h0.gL]; intro e; cases e
  · intro m e; cases e
  · rw [hB]; intro e; cases e
  · intro m e; cases e
  · rw [h0.gK]; intro e; cases e
  · obtain ⟨l, h1, h2, h3⟩ := h0.pd
    refine ⟨l, h1, h2.st x1 (fun k hk => by rw [h0.gP k hk]; intro e; cases e), fun t ht => ⟨(h3 t ht).1.st x1 (fun k hk => by rw [((h3 t ht).2 k hk).2]; intro e; cases e), fun k hk => ?_⟩⟩
    have := (h3 t ht).2 k hk
    exact ⟨Nat.lt_of_lt_of_le this.1 x1.size, this.2⟩

def lastsTo (M : Md) (K : List Ac) (k : Nat) : Md := (K.take k).foldl Md.lasts M
def settlesTo (M : Md) (k : Nat) : Md := (M.pend.take k).foldl (fun m a => m.settle a.n) M

set_option maxRecDepth 20000 in
set_option maxHeartbeats 4000000 in
theorem crash_any (g : Nat → Tg) (i : Nat) (J : DJ) (M : Md) (N : Nat) (kp : Option Addr) (kl : List Bool) (kc KL : Nat) (z : Int) (w : World) (h : DS w g i J M) (ok : MOk J M N) (hN : N ≤ 1400) (HKL : Hid (KL = kl.length)) (hk : BRow w kp kl) (hkm : KL ≤ maxLen) :
    Calls Try.prog 18 #[.pointer (some ⟨J.D, 0, none⟩), .slice kp KL kc, .int .i64 z] w fun e w' => e = .returned (.int .i64 0) ∧ RS w w' g i J (M.crash kl z) (N + 1) := by
  have c2 := h.c2
  have c3 := h.c3
  have hpl : M.pend.length ≤ 1400 := by have := ok.ln; omega
  obtain ⟨l, hl1, hlo, hl3⟩ := h.pd
  have HLn : Hid (M.pend.length = l.length) := by show _ = _; rw [← hl1]; simp
  have h3 : ∀ t ∈ l, Bs w t.2.1 t.2.2 t.1.b ∧ t.1.b.length ≤ 1000000000 := fun t ht => ⟨(hl3 t ht).1, by
    have := (ok.pe t.1 (by rw [← hl1]; exact List.mem_map_of_mem ht)).2.2; omega⟩
  have HL1 := hide hl1
  have HL3 := hide hl3
  clear hl1 hl3
  go_enter Try.func18, Try.ntmps18
  go_wp2_with fail
  refine (unmade_not J.D J.S w c2).mono ?_
  rintro e w' ⟨rfl, rfl⟩
  go_wp2_with fail
  refine (kept_any J.P J.pc l kp kl kc z M.pend.length KL _ HLn HKL hlo hk (by omega) hkm h3).mono ?_
  rintro e w1 ⟨Q, qc, lo, rfl, hoq, HK1, HK2, HQ, hb1⟩
  have HOQ := hide hoq
  have hdt : Hid (∃ g1, DS w1 g1 i J M ∧ St w' w1 g g1 (fun t => t.of i) ∧ (∀ k, blk Q = some k → g1 k = .o) ∧ ∀ t ∈ lo, Bs w1 t.2.1 t.2.2 t.1.b ∧ ∀ k, blk t.2.1 = some k → k < w1.heap.size ∧ g1 k = .a i) := by
    have x : ∀ S, St w' w1 g (fun k => if k < w'.heap.size then g k else .o) S := fun S => ⟨hb1.os, hb1.tape, hb1.output, hb1.size, fun k hk _ => hb1.block k hk, fun k hk => by simp [hk]⟩
    refine ⟨_, h.st (x (fun _ => False)) (fun _ _ e => e), x _, fun k hk => ?_, fun t ht => ?_⟩
    · have := unhide HQ k hk
      show (if k < w'.heap.size then g k else .o) = _
      rw [if_neg (by omega)]
    · obtain ⟨u, hu, hb, hB⟩ := unhide HK2 t ht
      have hu3 := unhide HL3 u hu
      refine ⟨hB _ (hu3.1.below hb1 (Nat.le_refl _)), fun k hk => ?_⟩
      rw [hb] at hk
      have := hu3.2 k hk
      refine ⟨Nat.lt_of_lt_of_le this.1 hb1.size, ?_⟩
      show (if k < w'.heap.size then g k else .o) = _
      rw [if_pos this.1]; exact this.2
  obtain ⟨g1, hd1, hst1, htq, hbt⟩ := unhide hdt
  have HST1 := hide hst1
  have HTQ := hide htq
  have HBT := hide hbt
  have HD1 := hide hd1
  have hlol : lo.length ≤ 1400 := by
    have := congrArg List.length (unhide HK1)
    rw [tornLast_len] at this
    have h2 := keptL_len (l.map (·.1)) kl
    have h4 := unhide HLn
    simp at this h2
    omega
  obtain ⟨KA, hKA⟩ : ∃ KA, KA = tornLast (keptL M.pend kl) z := ⟨_, rfl⟩
  have HKA : Hid (lo.map (·.1) = KA) := by show _ = _; rw [hKA, ← unhide HL1]; exact unhide HK1
  have HKB := hide hKA
  clear hKA hoq hdt hst1 htq hbt hd1 hb1 hlo h3 HK1 HK2
  go_wp2
  go_loopw [21] (fun v wr => ∃ (k : Nat) (gk : Nat → Tg), k ≤ lo.length ∧ v = .int .i64 (k : Int) ∧ Hid (DS wr gk i J (lastsTo M KA k)) ∧ Hid (St w1 wr g1 gk (fun t => t = .l i ∨ ∃ n, t = .lr i n))) (fun v _ => lo.length - (intOf v).toNat)
  case atStart => exact ⟨0, g1, Nat.zero_le _, rfl, unhide HD1, St.refl _ _ _⟩
  case round =>
    obtain ⟨k, gk, hkl, rfl, HD, HS⟩ := hrel
    by_cases hlt : k < lo.length
    · have hlt2 : (k : Int) < (lo.length : Int) := by omega
      have hoq := (unhide HOQ).st (unhide HS) (fun j hj => by rw [unhide HTQ j hj]; rintro (e | ⟨n, e⟩) <;> cases e)
      obtain ⟨t, ht⟩ : ∃ t, lo[k]? = some t := ⟨_, List.getElem?_eq_getElem hlt⟩
      obtain ⟨G, hG, a0, a1, a2, a3⟩ := hoq.at ht
      have HTk : Hid (KA[k]? = some t.1) := by show _ = _; rw [← unhide HKA, List.getElem?_map, ht]; rfl
      have hbt := unhide HBT t (List.mem_of_getElem? ht)
      have HT3 : Hid (Bs wr t.2.1 t.2.2 t.1.b ∧ ∀ k, blk t.2.1 = some k → k < wr.heap.size ∧ gk k = .a i) := by
        refine ⟨hbt.1.st (unhide HS) (fun j hj => by rw [(hbt.2 j hj).2]; rintro (e | ⟨n, e⟩) <;> cases e), fun j hj => ⟨Nat.lt_of_lt_of_le (hbt.2 j hj).1 (unhide HS).size, ((unhide HS).ag j (hbt.2 j hj).1).trans (hbt.2 j hj).2⟩⟩
      have c3' : Hid (Q = some ⟨G, 0, none⟩) := hG
      obtain ⟨u, hu⟩ : ∃ u, u = wr.alloc (.cells #[.int .i64 (t.1.k : Int), .string (str t.1.n), .int .i64 (t.1.p : Int), .slice t.2.1 t.1.b.length t.2.2] 63) := ⟨_, rfl⟩
      have hBu : Below wr.heap.size wr u.drew := by rw [hu]; exact ((Below.refl _ _).alloc (Nat.le_refl _) _).drew
      have hbx : Box u.drew wr.heap.size (.int .i64 (t.1.k : Int)) (.string (str t.1.n)) (.int .i64 (t.1.p : Int)) (.slice t.2.1 t.1.b.length t.2.2) := by unfold Box; rw [hu]; exact heap_alloc_new wr _
      obtain ⟨g2, p1, st1⟩ := box_laidK (unhide HD) t (unhide HT3) u.drew hBu hbx (fun t => t = .l i ∨ ∃ n, t = .lr i n)
      have P1 := hide p1
      have ST1 := hide ((unhide HS).trans st1)
      have hS1 := And.intro p1.ds.c1 p1.box.cells
      have hby := p1.by'
      have hfl := p1.ds.fl
      have htL := p1.ds.trL
      have hxt : ∀ j, blk t.2.1 = some j → g2 j ≠ .lr i t.1.n := fun j hj e => by have := (p1.ty j hj).2; rw [e] at this; cases this
      have hmem : t.1 ∈ tornLast (keptL M.pend kl) z := by rw [← unhide HKB]; exact List.mem_of_getElem? (unhide HTk)
      obtain ⟨hk2, hn24, hpb⟩ := torn_pe ok hmem
      have hl' : (fget (lastsTo M KA k).last t.1.n).length ≤ 1000000000 := by
        unfold lastsTo
        rw [lasts_last]
        have := fold_len (B := N * 65536) (KA.take k) M.last ok.ll (fun b hb => (torn_pe ok (by rw [← unhide HKB]; exact List.mem_of_mem_take hb)).2.2) t.1.n
        omega
      have hc1 : (lastsTo M KA k).lastN ≤ 1000000000 := by
        have h1 := lasts_lastN (KA.take k) M
        have h2 := ok.ln
        unfold lastsTo
        have h3 : (KA.take k).length ≤ k := by simp; omega
        omega
      have hn1 : t.1.n.length ≤ 1000 := by omega
      have hp1 : t.1.p ≤ 1000000000 := by omega
      have hb1 : t.1.b.length ≤ 1000000000 := by omega
      have HU := hide hu
      clear hu hBu hbx p1 st1 hpb hoq ht hbt hmem
      go_wp2_with fail
      rw [← unhide HU]
      clear hG a0 a1 a2 a3 HU
      go_region_held3 (fun w' => w'.cell? ⟨J.D, 1, none⟩ = some (.map (some J.L)) ∧ w'.cell? ⟨wr.heap.size, 0, none⟩ = some (.int .i64 (t.1.k : Int)) ∧ w'.cell? ⟨wr.heap.size, 1, none⟩ = some (.string (str t.1.n)) ∧ w'.cell? ⟨wr.heap.size, 2, none⟩ = some (.int .i64 (t.1.p : Int)) ∧ w'.cell? ⟨wr.heap.size, 3, none⟩ = some (.slice t.2.1 t.1.b.length t.2.2)) (first | exact hS1 | exact And.intro p2.ds.c1 p2.box.cells) ((go_at_call 34; refine (do_any g2 (.lr i) J.L (lastsTo M KA k).last (lastsTo M KA k).lastN t.1 (t.1.k : Int) (t.1.p : Int) t.2.1 t.2.2 _ hfl htL rfl hk2 hn1 rfl hby hxt hl' hp1 hb1 hc1).mono ?_; rintro e w2 ⟨rfl, g3, HF, HT⟩; obtain ⟨p2, st2⟩ := perf2K (unhide P1) HF HT))
      have HF3 : Hid (DS w2 g3 i J (lastsTo M KA (k + 1))) := by
        have e : lastsTo M KA (k + 1) = (lastsTo M KA k).lasts t.1 := by
          unfold lastsTo
          rw [take_snoc (unhide HTk), List.foldl_append]
          rfl
        rw [e]
        exact p2.ds
      have ST2 := hide ((unhide ST1).trans st2)
      clear p2 st2 hS1 hby hfl htL hxt P1 ST1 HF HT
      go_wp2
      go_roundw
      case rel => exact ⟨k + 1, g3, by omega, by go_num, HF3, ST2⟩
      case measure => simp [intOf]; omega
    · obtain rfl : k = lo.length := by omega
      obtain ⟨M1, hM1⟩ : ∃ M1, M1 = KA.foldl Md.lasts M := ⟨_, rfl⟩
      have hE : lastsTo M KA lo.length = M1 := by
        rw [hM1]
        unfold lastsTo
        rw [List.take_of_length_le (by rw [← unhide HKA]; simp)]
      have hds : DS wr gk i J M1 := by rw [← hE]; exact unhide HD
      have hM1p : M1.pend = M.pend := by rw [hM1]; exact (lasts_keep KA M).1
      have hM1l : ∀ n, (fget M1.last n).length ≤ N * 65536 := by
        intro n
        rw [hM1, lasts_last]
        exact fold_len (B := N * 65536) KA M.last ok.ll (fun b hb => (torn_pe ok (by rw [← unhide HKB]; exact hb)).2.2) n
      have hM1N : M1.lastN ≤ 2800 := by
        rw [hM1]
        have h1 := lasts_lastN KA M
        have h2 := ok.ln
        have h3 : KA.length = lo.length := by rw [← unhide HKA]; simp
        omega
      have d1 := hds.c1
      have HM1 := hide hM1
      have HMP := hide hM1p
      have HML := hide hM1l
      have HDS := hide hds
      have hfl := hds.fl
      have hSTw : Hid (St w' wr g gk (fun t => t.of i)) := (unhide HST1).trans ((unhide HS).mono (fun t e => by rcases e with e | ⟨n, e⟩ <;> (rw [e]; rfl)))
      have hcl : ∀ n, (fget M1.last n).length ≤ 100000000 := fun n => by have := unhide HML n; omega
      have hcN : M1.lastN ≤ 1000000 := by omega
      have HCL := hide hcl
      clear hM1 hE hds hM1p hM1l HD HS hcl
      go_wp2_with fail
      refine (fclone_any gk (.lr i) (.sr i) (.s i) J.L M1.last M1.lastN wr hfl (by intro e; cases e) (by intro n e; cases e) (by intro n e; cases e) (by intro m n e; cases e; rfl) (unhide HCL) hcN).mono ?_
      rintro e w2 ⟨rfl, hb2, g2, hf2, hag2, htm2⟩
      have hD2 := (unhide HDS).below hb2
      have q2 := hD2.c2
      have f2 := hD2.fr 2
      have q3 := hD2.c3
      rw [unhide HMP] at q3
      obtain ⟨d2, st2⟩ := (unhide HDS).newSeen hf2 hb2 hag2 htm2
      obtain ⟨u2, hu2⟩ : ∃ u2, u2 = w2.setCell ⟨J.D, 2, none⟩ (.map (some wr.heap.size)) := ⟨_, rfl⟩
      rw [← hu2] at d2 st2
      have HU2 := hide hu2
      have HD2 := hide d2
      have HST2 := hide ((unhide hSTw).trans st2)
      obtain ⟨B2, hB2⟩ : ∃ B2, B2 = wr.heap.size := ⟨_, rfl⟩
      rw [← hB2] at HD2 HU2
      clear hu2 d2 st2 hD2 hf2 hb2 hag2 htm2 hfl d1 HDS hSTw
      rw [← hB2]
      clear hB2
      go_wp2
      rw [← unhide HU2]
      clear q2 f2 q3 HU2
      have HMPR : Hid (M1.reseen.pend = M.pend) := unhide HMP
      go_loopw [45] (fun v wx => ∃ (k : Nat), k ≤ M.pend.length ∧ v = .int .i64 (k : Int) ∧ Hid (DS wx g2 i { J with S := B2, kc := J.kc + k } (settlesTo M1.reseen k)) ∧ Hid (St w' wx g g2 (fun t => t.of i))) (fun v _ => M.pend.length - (intOf v).toNat)
      case atStart => exact ⟨0, Nat.zero_le _, rfl, unhide HD2, unhide HST2⟩
      case round =>
        rename_i wx
        obtain ⟨k, hk5, rfl, HD, HS⟩ := hrel
        by_cases hlt5 : k < M.pend.length
        · have hlt6 : (k : Int) < (M.pend.length : Int) := by omega
          obtain ⟨l5, hl5, hlo5, hl35⟩ := (unhide HD).pd
          simp only at hlo5
          have hpe : (settlesTo M1.reseen k).pend = M.pend := (settles_keep _ _).1.trans (unhide HMPR)
          obtain ⟨t, ht⟩ : ∃ t, l5[k]? = some t := by
            have : k < l5.length := by have := congrArg List.length hl5; rw [hpe] at this; simp at this; omega
            exact ⟨_, List.getElem?_eq_getElem this⟩
          obtain ⟨G, hG, a0, a1, a2, a3⟩ := hlo5.at ht
          have HTk : Hid (M.pend[k]? = some t.1) := by
            show _ = _
            rw [← hpe, ← hl5, List.getElem?_map, ht]; rfl
          have c3' : Hid (J.P = some ⟨G, 0, none⟩) := hG
          obtain ⟨hk2, hn24, hpb⟩ := ok.pe t.1 (List.mem_of_getElem? (unhide HTk))
          have hn1 : t.1.n.length ≤ 1000 := by omega
          have hkc : J.kc + k ≤ 1000000 := by have := ok.kc; omega
          have hsl' : (fget (settlesTo M1.reseen k).seen t.1.n).length ≤ 1000000000 := by
            have e1 : (settlesTo M1.reseen k).seen = M1.last := (settles_keep _ _).2.1
            rw [e1]
            have := unhide HML t.1.n
            omega
          have hDu := (unhide HD).below (w' := _) (show Below _ _ (World.alloc _ (.cells #[.int .i64 (t.1.k : Int), .string (str t.1.n), .int .i64 (t.1.p : Int), .slice t.2.1 t.1.b.length t.2.2] 63)) from (Below.refl _ _).alloc (Nat.le_refl _) _)
          have HDu := hide hDu
          clear hDu hl5 hlo5 hl35 hpe ht hpb
          go_wp2_with fail
          refine (settle_any g2 i { J with S := B2, kc := J.kc + k } (settlesTo M1.reseen k) t.1.n _ (unhide HDu) hn1 hkc hsl').mono ?_
          rintro e w5 ⟨rfl, HD5, HS5⟩
          have HF5 : Hid (DS w5 g2 i { J with S := B2, kc := J.kc + (k + 1) } (settlesTo M1.reseen (k + 1))) := by
            have e : settlesTo M1.reseen (k + 1) = (settlesTo M1.reseen k).settle t.1.n := by
              unfold settlesTo
              rw [unhide HMPR, take_snoc (unhide HTk), List.foldl_append]
              rfl
            rw [e]
            exact HD5
          have HS6 : Hid (St w' w5 g g2 (fun t => t.of i)) := ((unhide HS).trans (St.ofBelow g2 _ ((Below.refl _ _).alloc (Nat.le_refl _) _))).trans ((unhide HS5).mono (fun t e => by rcases e with e | e <;> (rw [e]; rfl)))
          clear hG a0 a1 a2 a3 HD5 HS5 HDu
          go_wp2
          go_roundw
          case rel => exact ⟨k + 1, by omega, by go_num, HF5, HS6⟩
          case measure => simp [intOf]; omega
        · obtain rfl : k = M.pend.length := by omega
          have HE : Hid ({ settlesTo M1.reseen M.pend.length with pend := [] } = M.crash kl z) := by
            show _ = _
            unfold settlesTo Md.crash
            rw [unhide HMPR, List.take_length, ← unhide HKB, ← unhide HM1]
          have HC := hide (unhide HD).clr
          have q3 := (unhide HD).c3
          have f3 := (unhide HD).fr 3
          simp only at q3 f3
          go_wp2
          go_ret
          refine ⟨rfl, g2, { J with S := B2, P := none, pc := 0, kc := J.kc + M.pend.length }, ?_, ok.crash rfl, (unhide HS).trans (unhide HC).2, rfl⟩
          have := (unhide HC).1
          rw [unhide HE] at this
          exact this
#print axioms crash_any
end Go.Proofs.Ytkhpjlgbiicdcaa
