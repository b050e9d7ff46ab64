/-
  disk: Sync.
-/
import Derived.Test.YtkhpjlgbiicdcaaDskR
set_option linter.unusedVariables false
namespace Go.Proofs.Ytkhpjlgbiicdcaa
open Go.RowKit Go.Maps

def isN (n : Nm) (a : Ac) : Bool := a.n == n
def Md.synced (M : Md) (n : Nm) : Md := { (M.pend.filter (isN n)).foldl Md.lasts M with pend := M.pend.filter (fun a => !(isN n a)) }
def Md.sync (M : Md) (n : Nm) : Md := if M.thereE n = 0 then (M.synced n).settle n else M
def syncTo (M : Md) (n : Nm) (k : Nat) : Md := ((M.pend.take k).filter (isN n)).foldl Md.lasts M

theorem DS.flt {w w1 : World} {g : Nat → Tg} {i : Nat} {J : DJ} {M : Md} (h : DS w g i J M) {l lo : List At} (hl1 : l.map (·.1) = M.pend) (hl3 : ∀ t ∈ l, Bs w t.2.1 t.2.2 t.1.b ∧ ∀ k, blk t.2.1 = some k → k < w.heap.size ∧ g k = .a i) (n : Nm) (hlo : lo = l.filter (keepN n)) (ho : OwnA w1 J.P J.pc lo) (hg : w.grownBy w1 (blk J.P)) :
    (w1.cell? ⟨J.D, 3, none⟩ = some (.slice J.P M.pend.length J.pc) ∧ w1.frozen? ⟨J.D, 3, none⟩ = false) ∧ DS (w1.setCell ⟨J.D, 3, none⟩ (.slice J.P lo.length J.pc)) g i J { M with pend := M.pend.filter (fun a => !(isN n a)) } ∧ St w (w1.setCell ⟨J.D, 3, none⟩ (.slice J.P lo.length J.pc)) g g (fun t => t = .d i ∨ t = .p i) := by
  have x0 : St w w1 g g (fun t => t = .p i) := St.ofG hg (fun k hk => h.gP k hk)
  have hD1 : w1.heap[J.D]? = some (.cells (dcells J M) 58 (0, 0)) := x0.heap h.dsk (by rw [h.gD]; intro e; cases e)
  have x1 : St w1 (w1.setCell ⟨J.D, 3, none⟩ (.slice J.P lo.length J.pc)) g g (fun t => t = .d i) := St.ofG (grownBy_setCell w1 ⟨J.D, 3, none⟩ _) (fun k hk => by rw [← Option.some.inj hk]; exact h.gD)
  have x : St w (w1.setCell ⟨J.D, 3, none⟩ (.slice J.P lo.length J.pc)) g g (fun t => t = .d i ∨ t = .p i) := (x0.mono (fun t e => .inr e)).trans (x1.mono (fun t e => .inl e))
  have hmap : lo.map (·.1) = M.pend.filter (fun a => !(isN n a)) := by
    rw [hlo, ← hl1, List.filter_map]
    rfl
  refine ⟨⟨by rw [cell_of_row w1 J.D 3 _ _ _ hD1]; rfl, frozen_of_row w1 J.D 3 _ _ hD1⟩, ⟨?_, h.gD, h.gL, h.gS, h.gK, h.gP, h.fl.st x ?_ ?_, h.fs.st x ?_ ?_, h.pk.st x ?_, lo, hmap, ho.st x1 (fun k hk => by rw [h.gP k hk]; intro e; cases e), fun t ht => ?_⟩, x⟩
  · have e1 : lo.length = (M.pend.filter (fun a => !(isN n a))).length := by rw [← hmap]; simp
    simp only [World.setCell, Array.getElem?_modify]
    rw [if_pos trivial, hD1, e1]
    rfl
  · rw [h.gL]; rintro (e | e) <;> cases e
  · rintro m (e | e) <;> cases e
  · rw [h.gS]; rintro (e | e) <;> cases e
  · rintro m (e | e) <;> cases e
  · rw [h.gK]; rintro (e | e) <;> cases e
  · have key := hl3 t (by rw [hlo] at ht; exact (List.mem_filter.1 ht).1)
    refine ⟨key.1.st x (fun k hk => by rw [(key.2 k hk).2]; rintro (e | e) <;> cases e), fun k hk => ?_⟩
    have := key.2 k hk
    exact ⟨Nat.lt_of_lt_of_le this.1 x.size, this.2⟩
theorem MOk.sync {J J' : DJ} {M : Md} {N : Nat} {n : Nm} (h : MOk J M N) (hJ : J'.kc = J.kc + 1) : MOk J' ((M.synced n).settle n) (N + 1) := by
  have g := h.mono (Nat.le_succ N)
  have k := lasts_keep (M.pend.filter (isN n)) M
  have kN := lasts_lastN (M.pend.filter (isN n)) M
  have hlen : (M.pend.filter (isN n)).length + (M.pend.filter (fun a => !(isN n a))).length = M.pend.length := by
    induction M.pend with
    | nil => rfl
    | cons a r ih => simp only [List.filter_cons]; cases isN n a <;> simp <;> omega
  refine ⟨?_, ?_, ?_, ?_, ?_, ?_, ?_, ?_⟩
  · show 0 ≤ (List.foldl Md.lasts M _ : Md).room; rw [k.2.2.2.1]; exact h.r0
  · show (List.foldl Md.lasts M _ : Md).room ≤ _; rw [k.2.2.2.1]; exact h.r1
  · show (List.foldl Md.lasts M _ : Md).lastN + (M.pend.filter (fun a => !(isN n a))).length ≤ N + 1; have := h.ln; omega
  · show (List.foldl Md.lasts M _ : Md).seenN ≤ _; rw [k.2.2.1]; exact g.sn
  · show J'.kc + (M.pend.filter (fun a => !(isN n a))).length ≤ _; have := h.kc; omega
  · intro m; show (fget (List.foldl Md.lasts M _ : Md).seen m).length ≤ _; rw [k.2.1]; exact g.sl m
  · intro m; show (fget (List.foldl Md.lasts M _ : Md).last m).length ≤ _; rw [lasts_last]; exact fold_len _ _ g.ll (fun b hb => (g.pe b (List.mem_filter.1 hb).1).2.2) m
  · intro a ha; exact g.pe a (List.mem_filter.1 ha).1

set_option maxRecDepth 20000 in
set_option maxHeartbeats 4000000 in
theorem sync_any (g : Nat → Tg) (i : Nat) (J : DJ) (M : Md) (N : Nat) (n : Nm) (w : World) (h : DS w g i J M) (ok : MOk J M N) (hN : N ≤ 1400) (hn : n.length ≤ maxLen) :
    Calls Try.prog 16 #[.pointer (some ⟨J.D, 0, none⟩), .string (str n)] w fun e w' => e = .returned (.int .i64 (M.thereE n)) ∧ RS w w' g i J (M.sync n) (N + 1) := by
  have hpl : M.pend.length ≤ 1400 := by have := ok.ln; omega
  have hkc : J.kc ≤ 1000000 := by have := ok.kc; omega
  obtain ⟨w0, hw0⟩ : ∃ w0, w0 = w.alloc (.cells #[.string (str n)] 9) := ⟨_, rfl⟩
  obtain ⟨Z, hZ⟩ : ∃ Z, Z = w.heap.size := ⟨_, rfl⟩
  have hB0 : Below w.heap.size w w0 := by rw [hw0]; exact (Below.refl _ _).alloc (Nat.le_refl _) _
  have hz0 : w0.cell? ⟨Z, 0, none⟩ = some (.string (str n)) := by
    rw [hw0, hZ, cell_of_row _ w.heap.size 0 _ _ _ (heap_alloc_new w _)]; rfl
  have hst0 : ∀ S, St w w0 g (fun k => if k < w.heap.size then g k else .o) S := fun S => ⟨hB0.os, hB0.tape, hB0.output, hB0.size, fun k hk _ => hB0.block k hk, fun k hk => by simp [hk]⟩
  have hd0 := h.st (hst0 (fun _ => False)) (fun _ _ e => e)
  obtain ⟨g0, hg0⟩ : ∃ g0 : Nat → Tg, g0 = (fun k => if k < w.heap.size then g k else .o) := ⟨_, rfl⟩
  rw [← hg0] at hd0
  have hgZ : g0 Z = .o := by rw [hg0, hZ]; simp
  have HST0 : Hid (St w w0 g g0 (fun t => t.of i)) := by rw [hg0]; exact hst0 _
  have HW := hide hw0
  have HZ := hide hZ
  have HB0 := hide hB0
  have HSM : Hid (∀ w' : World, Below w.heap.size w w' → RS w w' g i J M (N + 1)) := fun w' hb => RS.same h ok hb
  clear hst0 hg0 hw0 hZ hB0 h
  rcases thereE_cases M n with ⟨ht, hnb, hs⟩ | ht | ht
  · have HT := hide ht
    have HV : Hid (M.sync n = (M.synced n).settle n) := by show _ = _; simp [Md.sync, ht]
    have hn1 : n.length ≤ 1000 := by have := isName_le hnb; omega
    clear ht hnb hs
    go_enter Try.func16, Try.ntmps16
    go_wp2_with fail
    rw [← unhide HW, ← unhide HZ]
    refine (there_any g0 i J M n w0 hd0 hn).mono ?_
    rintro e w0' ⟨rfl, rfl⟩
    rw [unhide HT]
    have c3 := hd0.c3
    have HD0 := hide hd0
    have HZ0 := hide hz0
    go_wp2
    clear hd0 c3 hz0
    go_loopw [19] (fun v wr => ∃ (k : Nat) (gk : Nat → Tg), k ≤ M.pend.length ∧ v = .int .i64 (k : Int) ∧ Hid (DS wr gk i J (syncTo M n k)) ∧ Hid (St w0' wr g0 gk (fun t => t = .l i ∨ ∃ n, t = .lr i n))) (fun v _ => M.pend.length - (intOf v).toNat)
    case atStart => exact ⟨0, g0, Nat.zero_le _, rfl, unhide HD0, St.refl _ _ _⟩
    case round =>
      obtain ⟨k, gk, hk, rfl, HD, HS⟩ := hrel
      have hzr : wr.cell? ⟨Z, 0, none⟩ = some (.string (str n)) := (unhide HS).cell (unhide HZ0) (by rw [hgZ]; rintro (e | ⟨n, e⟩) <;> cases e)
      by_cases hlt : k < M.pend.length
      · have hlt2 : (k : Int) < (M.pend.length : Int) := by omega
        obtain ⟨l, hl1, hlo, hl3⟩ := (unhide HD).pd
        have hpe : (syncTo M n k).pend = M.pend := (lasts_keep _ _).1
        obtain ⟨t, ht⟩ : ∃ t, l[k]? = some t := by
          have : k < l.length := by have := congrArg List.length hl1; rw [hpe] at this; simp at this; omega
          exact ⟨_, List.getElem?_eq_getElem this⟩
        obtain ⟨G, hG, a0, a1, a2, a3⟩ := hlo.at ht
        have HTk : Hid (M.pend[k]? = some t.1) := by
          show _ = _
          rw [← hpe, ← hl1, List.getElem?_map, ht]; rfl
        have HT3 := hide (hl3 t (List.mem_of_getElem? ht))
        have c3' : Hid (J.P = some ⟨G, 0, none⟩) := hG
        have hzu : (wr.alloc (.cells #[.int .i64 (t.1.k : Int), .string (str t.1.n), .int .i64 (t.1.p : Int), .slice t.2.1 t.1.b.length t.2.2] 63)).cell? ⟨Z, 0, none⟩ = some (.string (str n)) := by
          rw [((Below.refl wr.heap.size wr).alloc (Nat.le_refl _) _).cell (World.block_lt_of_cell? _ _ hzr)]; exact hzr
        have t1 := toList_str t.1.n
        have t2 := toList_str n
        clear hl1 hlo hl3 hpe ht
        cases hb : (t.1.n == n) with
        | false =>
          have HBt := hide hb
          have HS2 : Hid (St w0' (wr.alloc (.cells #[.int .i64 (t.1.k : Int), .string (str t.1.n), .int .i64 (t.1.p : Int), .slice t.2.1 t.1.b.length t.2.2] 63)) g0 gk (fun t => t = .l i ∨ ∃ n, t = .lr i n)) := (unhide HS).trans (St.ofBelow gk _ ((Below.refl _ _).alloc (Nat.le_refl _) _))
          have HD2 : Hid (DS (wr.alloc (.cells #[.int .i64 (t.1.k : Int), .string (str t.1.n), .int .i64 (t.1.p : Int), .slice t.2.1 t.1.b.length t.2.2] 63)) gk i J (syncTo M n (k + 1))) := by
            have e : syncTo M n (k + 1) = syncTo M n k := by
              unfold syncTo
              rw [take_snoc (unhide HTk), List.filter_append]
              simp [isN, unhide HBt]
            rw [e]
            exact (unhide HD).below ((Below.refl _ _).alloc (Nat.le_refl _) _)
          go_wp2
          exact ⟨⟨k + 1, gk, by omega, by go_num, HD2, HS2⟩, by simp [intOf]; omega⟩
        | true =>
          have HBt := hide hb
          obtain ⟨u, hu⟩ : ∃ u, u = wr.alloc (.cells #[.int .i64 (t.1.k : Int), .string (str t.1.n), .int .i64 (t.1.p : Int), .slice t.2.1 t.1.b.length t.2.2] 63) := ⟨_, rfl⟩
          have hBu : Below wr.heap.size wr u.drew := by rw [hu]; exact ((Below.refl _ _).alloc (Nat.le_refl _) _).drew
          have hbx : Box u.drew wr.heap.size (.int .i64 (t.1.k : Int)) (.string (str t.1.n)) (.int .i64 (t.1.p : Int)) (.slice t.2.1 t.1.b.length t.2.2) := by unfold Box; rw [hu]; exact heap_alloc_new wr _
          obtain ⟨g2, p1, st1⟩ := box_laidK (unhide HD) t (unhide HT3) u.drew hBu hbx (fun t => t = .l i ∨ ∃ n, t = .lr i n)
          have P1 := hide p1
          have ST1 := hide ((unhide HS).trans st1)
          have hS1 := And.intro p1.ds.c1 p1.box.cells
          have hby := p1.by'
          have hfl := p1.ds.fl
          have htL := p1.ds.trL
          have hxt : ∀ j, blk t.2.1 = some j → g2 j ≠ .lr i t.1.n := fun j hj e => by have := (p1.ty j hj).2; rw [e] at this; cases this
          obtain ⟨hk2, hn24, hpb⟩ := ok.pe t.1 (List.mem_of_getElem? (unhide HTk))
          have hl' : (fget (syncTo M n k).last t.1.n).length ≤ 1000000000 := by
            unfold syncTo
            rw [lasts_last]
            have := fold_len (B := N * 65536) ((M.pend.take k).filter (isN n)) M.last ok.ll (fun b hb => (ok.pe b (List.mem_of_mem_take (List.mem_filter.1 hb).1)).2.2) t.1.n
            omega
          have hc1 : (syncTo M n k).lastN ≤ 1000000000 := by
            have h1 := lasts_lastN ((M.pend.take k).filter (isN n)) M
            have h2 := ok.ln
            have h3 : ((M.pend.take k).filter (isN n)).length ≤ (M.pend.take k).length := List.length_filter_le _ _
            unfold syncTo
            simp at h3
            omega
          have hnn : t.1.n.length ≤ 1000 := by omega
          have hp1 : t.1.p ≤ 1000000000 := by omega
          have hb1 : t.1.b.length ≤ 1000000000 := by omega
          have HU := hide hu
          clear hu hBu hbx p1 st1 hpb
          go_wp2_with fail
          rw [← unhide HU]
          clear hG a0 a1 a2 a3 HU hzu t1 t2 hb
          go_region_held3 (fun w' => w'.cell? ⟨J.D, 1, none⟩ = some (.map (some J.L)) ∧ w'.cell? ⟨wr.heap.size, 0, none⟩ = some (.int .i64 (t.1.k : Int)) ∧ w'.cell? ⟨wr.heap.size, 1, none⟩ = some (.string (str t.1.n)) ∧ w'.cell? ⟨wr.heap.size, 2, none⟩ = some (.int .i64 (t.1.p : Int)) ∧ w'.cell? ⟨wr.heap.size, 3, none⟩ = some (.slice t.2.1 t.1.b.length t.2.2)) (first | exact hS1 | exact And.intro p2.ds.c1 p2.box.cells) ((go_at_call 34; refine (do_any g2 (.lr i) J.L (syncTo M n k).last (syncTo M n k).lastN t.1 (t.1.k : Int) (t.1.p : Int) t.2.1 t.2.2 _ hfl htL rfl hk2 hnn rfl hby hxt hl' hp1 hb1 hc1).mono ?_; rintro e w2 ⟨rfl, g3, HF, HT2⟩; obtain ⟨p2, st2⟩ := perf2K (unhide P1) HF HT2))
          have HF3 : Hid (DS w2 g3 i J (syncTo M n (k + 1))) := by
            have e : syncTo M n (k + 1) = (syncTo M n k).lasts t.1 := by
              unfold syncTo
              rw [take_snoc (unhide HTk), List.filter_append, List.foldl_append]
              simp [isN, unhide HBt]
            rw [e]
            exact p2.ds
          have ST2 := hide ((unhide ST1).trans st2)
          clear p2 st2 hS1 hby hfl htL hxt P1 ST1 HF HT2
          go_wp2
          go_roundw
          case rel => exact ⟨k + 1, g3, by omega, by go_num, HF3, ST2⟩
          case measure => simp [intOf]; omega
      · obtain rfl : k = M.pend.length := by omega
        obtain ⟨M1, hM1⟩ : ∃ M1, M1 = (M.pend.filter (isN n)).foldl Md.lasts M := ⟨_, rfl⟩
        have hds : DS wr gk i J M1 := by
          have e : syncTo M n M.pend.length = M1 := by rw [hM1]; unfold syncTo; rw [List.take_length]
          rw [← e]; exact unhide HD
        have hM1p : M1.pend = M.pend := by rw [hM1]; exact (lasts_keep _ _).1
        obtain ⟨l, hl1, hlo, hl3⟩ := hds.pd
        have HLn : Hid (M.pend.length = l.length) := by show _ = _; rw [← hM1p, ← hl1]; simp
        have hgkZ : gk Z = .o := by rw [(unhide HS).ag Z (World.block_lt_of_cell? _ _ (unhide HZ0))]; exact hgZ
        have hZP : blk J.P ≠ some Z := fun e => by have := hds.gP Z e; rw [hgkZ] at this; cases this
        have q3 := hds.c3
        rw [hM1p] at q3
        have HDS := hide hds
        have HL1 := hide hl1
        have HL3 := hide hl3
        have HM1 := hide hM1
        have HMP := hide hM1p
        have hll : M.pend.length ≤ 1000000 := by omega
        clear hds hl1 hl3 hM1 hM1p HD
        go_wp2_with fail
        refine (delf_any J.P J.pc l M.pend.length n Z wr HLn hll hlo hzr hZP).mono ?_
        rintro e w2 ⟨lo, rfl, HLo, HO2, HG2⟩
        obtain ⟨⟨r3, f3⟩, d3, x3⟩ := (unhide HDS).flt (unhide HL1) (unhide HL3) n (unhide HLo) (unhide HO2) (unhide HG2)
        obtain ⟨u3, hu3⟩ : ∃ u3, u3 = w2.setCell ⟨J.D, 3, none⟩ (.slice J.P lo.length J.pc) := ⟨_, rfl⟩
        rw [← hu3] at d3 x3
        have hzs : u3.cell? ⟨Z, 0, none⟩ = some (.string (str n)) := x3.cell hzr (by rw [hgkZ]; rintro (e | e) <;> cases e)
        have hzs2 : (w2.setCell ⟨J.D, 3, none⟩ (.slice J.P lo.length J.pc)).cell? ⟨Z, 0, none⟩ = some (.string (str n)) := by rw [← hu3]; exact hzs
        have HU3 := hide hu3
        have HD3 := hide d3
        have HX3 := hide x3
        have hMseen : M1.seen = M.seen := by rw [unhide HM1]; exact (lasts_keep _ _).2.1
        have hsl : (fget M1.seen n).length ≤ 1000000000 := by rw [hMseen]; have := ok.sl n; omega
        clear hu3 d3 x3 q3 hlo hMseen
        go_wp2_with fail
        rw [← unhide HU3]
        refine (settle_any gk i J { M1 with pend := M1.pend.filter (fun a => !(isN n a)) } n u3 (unhide HD3) hn1 hkc hsl).mono ?_
        rintro e w4 ⟨rfl, HD4, HS4⟩
        have HX4 : Hid (St w w4 g gk (fun t => t.of i)) := (((unhide HST0).trans ((unhide HS).mono (fun t e => by rcases e with e | ⟨n, e⟩ <;> (rw [e]; rfl)))).trans ((unhide HX3).mono (fun t e => by rcases e with e | e <;> (rw [e]; rfl)))).trans ((unhide HS4).mono (fun t e => by rcases e with e | e <;> (rw [e]; rfl)))
        go_wp2
        go_ret
        refine ⟨by rw [unhide HT]; rfl, ?_⟩
        rw [unhide HV]
        refine ⟨gk, { J with kc := J.kc + 1 }, ?_, ok.sync rfl, unhide HX4, rfl⟩
        have := unhide HD4
        rw [unhide HMP, unhide HM1] at this
        exact this
  · have HV : Hid (M.sync n = M) := by show _ = _; simp [Md.sync, ht]
    have HT := hide ht
    clear ht
    go_enter Try.func16, Try.ntmps16
    go_wp2_with fail
    rw [← unhide HW, ← unhide HZ]
    refine (there_any g0 i J M n w0 hd0 hn).mono ?_
    rintro e w0' ⟨rfl, rfl⟩
    rw [unhide HT]
    go_wp2
    go_ret
    exact ⟨by rw [unhide HT]; rfl, by rw [unhide HV]; exact unhide HSM _ (unhide HB0)⟩
  · have HV : Hid (M.sync n = M) := by show _ = _; simp [Md.sync, ht]
    have HT := hide ht
    clear ht
    go_enter Try.func16, Try.ntmps16
    go_wp2_with fail
    rw [← unhide HW, ← unhide HZ]
    refine (there_any g0 i J M n w0 hd0 hn).mono ?_
    rintro e w0' ⟨rfl, rfl⟩
    rw [unhide HT]
    go_wp2
    go_ret
    exact ⟨by rw [unhide HT]; rfl, by rw [unhide HV]; exact unhide HSM _ (unhide HB0)⟩
#print axioms sync_any
end Go.Proofs.Ytkhpjlgbiicdcaa
