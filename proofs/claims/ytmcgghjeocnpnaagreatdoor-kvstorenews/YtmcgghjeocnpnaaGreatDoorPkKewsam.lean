/-
  disk: the clone of files.; disk: Crash.; disk: slices.DeleteFunc over acts.; disk: slices.DeleteFunc over acts.; disk: Sync.; disk: the calls bundled; awake.; seglog: disk's calls bundled, for seats without disk's own statements.
-/
import Derived.Test.YtmcgghjeocnpnaaGreatDoorPkKewsal
import Derived.Sort.KeysCollected
section
set_option linter.unusedVariables false
namespace Go.Proofs.YtmcgghjeocnpnaaGreatDoor
open Go.RowKit Go.Maps

theorem size_has {w w' : World} {R R' : Value → Option (DataW Unit × List MemPlace)} {b b' n n' : Nat} {D D' : DataW Unit} (h : w.ownsMap Tryz.prog 9 R b n D) (h' : w'.ownsMap Tryz.prog 9 R' b' n' D') (he : ∀ x, Maps.has D (.string x) = Maps.has D' (.string x)) : Maps.size D = Maps.size D' := by
  have hu := Tryz.underlying9
  obtain ⟨es, hD, hpw, _⟩ := h.entries law
  obtain ⟨es1, hD1, hko⟩ := h.keysOf
  obtain rfl : es = es1 := by rw [hD] at hD1; simpa using hD1
  obtain ⟨fs, hF, hpw', _⟩ := h'.entries law
  obtain ⟨fs1, hF1, hko'⟩ := h'.keysOf
  obtain rfl : fs = fs1 := by rw [hF] at hF1; simpa using hF1
  subst hD hF
  have k1 : ∀ p ∈ es, ∃ x, p.1 = .string x := fun p hp => by obtain ⟨v, hv⟩ := hko p hp; obtain ⟨x, _, hx, _⟩ := Maps.keyOf_str hu hv; exact ⟨x, hx⟩
  have k2 : ∀ p ∈ fs, ∃ x, p.1 = .string x := fun p hp => by obtain ⟨v, hv⟩ := hko' p hp; obtain ⟨x, _, hx, _⟩ := Maps.keyOf_str hu hv; exact ⟨x, hx⟩
  have hnd : (es.map fun p => strOf p.1).Nodup := by
    refine List.pairwise_map.2 (hpw.imp_of_mem fun {p q} hp' hq' hne e => hne ?_)
    obtain ⟨a, ha⟩ := k1 p hp'
    obtain ⟨b, hb⟩ := k1 q hq'
    rw [ha, hb] at e ⊢
    exact congrArg _ e
  have := (perm_strKeys hpw' k2 hnd (fun x => by
    rw [← he x, has_eq, List.any_eq_true, List.mem_map]
    constructor
    · rintro ⟨p, hp', rfl⟩
      obtain ⟨a, ha⟩ := k1 p hp'
      exact ⟨p, hp', by rw [ha]; simp [Lit.sameKey, strOf]⟩
    · rintro ⟨p, hp', hs⟩
      obtain ⟨a, ha⟩ := k1 p hp'
      rw [ha] at hs
      exact ⟨p, hp', by rw [ha]; simpa [Lit.sameKey, strOf] using hs⟩)).length_eq
  simpa [strKeys, Maps.size] using this

/-- A round's store into the clone. -/
theorem clone_step {wr w1 w2 : World} {go : Nat → Tg} {tr' : Nm → Tg} {B : Nat} {f fo : Files} {no : Nat} {x : Nm} {l : List UInt8} {y : Option Addr} {cy : Nat} {left : Lit → Bool} (hB : B < wr.heap.size) (hfm : FM wr go tr' B fo no) (htr : TR go tr' B) (hfo : ∀ n, fo n = if left (.string n) then none else f n) (hx : x.length ≤ maxLen) (hf : f x = some l) (hlx : left (.string x) = true) (hno : no ≤ 1000000000)
    {r : Nat} (hg1 : wr.grownBy w1 (some r)) (hs1 : w1.heap.size = wr.heap.size) (hrB : r ≠ B) (hro : ∀ n, go r ≠ tr' n) (hgr : ¬ go r = go B) (hbl : Below w1.heap.size w1 w2) (ho : OwnB w2 w1.heap.size y cy l) :
    ∃ w3 go', (Instr.mapUpdate 75 (.map (some B)) (.string (str x)) (.slice y l.length cy)).run Tryz.prog w2 = .ok () w3 ∧ FM w3 go' tr' B (upd fo x (some l)) (no + 1) ∧ w2.grownBy w3 (some B) ∧ (∀ k, k < wr.heap.size → go' k = go k) ∧ (∀ n, upd fo x (some l) n = if (left (.string n) && !(Lit.string n).sameKey (.string x)) then none else f n) := by
  obtain ⟨y', rfl⟩ := ho.form
  have hylt := ho.lt
  rw [blk_ad] at hylt
  have hst : St wr w2 go (fun k => if k < wr.heap.size then go k else if y' = some k then tr' x else .o) (fun t => t = go r) := by
    refine ⟨hbl.os.trans hg1.os, hbl.tape.trans hg1.tape, hbl.output.trans hg1.output, Nat.le_trans hg1.size hbl.size, fun k hk hs => ?_, fun k hk => by simp [hk]⟩
    rw [hbl.block k (by omega)]
    exact hg1.block k hk (fun e => hs (by rw [Option.some.inj e]))
  have hfx : fo x = none := by rw [hfo x, if_pos hlx]
  have ho' : OwnB w2 0 (ad y') cy l := ho.base (Nat.zero_le _)
  obtain ⟨w3, hup, hfm3, hg3⟩ := hfm.put x hx hst (fun e => hgr e.symm) (fun m hm e => hro m e.symm) (by unfold maxLen; omega) ho' (fun b hb => by
    have := (hylt b hb).1
    show (if b < wr.heap.size then go b else if y' = some b then tr' x else .o) = _
    rw [if_neg (by omega), if_pos hb])
  rw [hfx] at hfm3
  refine ⟨w3, _, hup, hfm3, hg3, fun k hk => by simp [hk], fun n => ?_⟩
  by_cases hn : n = x
  · subst hn; rw [upd_same, hf]; simp [Lit.sameKey]
  · rw [upd_other _ _ _ _ hn, hfo n]
    have : (Lit.string n).sameKey (.string x) = false := sameKey_ne (fun e => hn (by simpa using e))
    rw [this]; simp

theorem run_mkmap (z : Int) (w : World) : (Instr.makeMap 75 (some (.int .i64 z))).run Tryz.prog w = .ok (.map (some w.heap.size)) (w.alloc (.map #[] 0)) := by
  simp [Instr.makeMap, run_underlying Tryz.underlying75, asInt, asIntOf, go_sem]
set_option maxRecDepth 20000 in
set_option maxHeartbeats 4000000 in
theorem fclone_any (g : Nat → Tg) (tr tr' : Nm → Tg) (tm' : Tg) (bm : Nat) (f : Files) (cnt : Nat) (w : World) (h : FM w g tr bm f cnt) (h1 : tm' ≠ .o) (h2 : ∀ n, tr' n ≠ .o) (h3 : ∀ n, tm' ≠ tr' n) (h4 : ∀ m n, tr' m = tr' n → m = n) (hl : ∀ n, (fget f n).length ≤ 100000000) (hc : cnt ≤ 1000000) :
    Calls Tryz.prog 44 #[.map (some bm)] w fun e w' => e = .returned (.map (some w.heap.size)) ∧ Below w.heap.size w w' ∧ ∃ g', FM w' g' tr' w.heap.size f cnt ∧ (∀ k, k < w.heap.size → g' k = g k) ∧ g' w.heap.size = tm' := by
  obtain ⟨D, hD1, hD2, hD3⟩ := h
  have hlen := hD1.len Tryz.underlying75 3
  have hmm := fun z => run_mkmap z w
  have hbm := hD1.lt
  have HD1 := hide hD1
  have HD2 := hide hD2
  have HD3 := hide hD3
  clear hD2 hD3
  have hown0 := hD1.alloc (.map #[] 0)
  clear hD1
  have hsz0 : (w.alloc (.map #[] 0)).heap.size = w.heap.size + 1 := by simp
  go_enter Tryz.func44, Tryz.ntmps44
  go_wp2_with (at_range; refine wpList_range_own _ rfl _ 75 rfl 9 86 law Tryz.underlying75 _ bm cnt D rfl hown0 ?_; intro w0 hrg0 hg0 hs0)
  go_frame
  rw [hsz0] at hrg0 hs0 ⊢
  have hb0 : Below w.heap.size w w0 := ((Below.refl _ _).alloc (Nat.le_refl _) (.map #[] 0)).grown hg0 (by simp) (fun j hj => by cases hj)
  have HI : Hid (FM w0 (fun k => if k < w.heap.size then g k else if k = w.heap.size then tm' else .o) tr' w.heap.size (fun _ => none) 0) := by
    have := FM.made w (fun k => if k < w.heap.size then g k else if k = w.heap.size then tm' else .o) tr'
    exact this.st (St.ofG (S := fun _ => False) hg0 (fun k hk => by cases hk)) (fun e => e) (fun _ e => e)
  have HB0 := hide hb0
  have HS0 := hide hs0
  clear hown0 hlen hmm hsz0 hg0 hb0 hs0
  go_loopw [4] (fun _ wr => ∃ (left : Lit → Bool) (c : Nat) (fo : Files) (no : Nat) (go : Nat → Tg), wr.ranges Tryz.prog 9 slE bm (w.heap.size + 1) cnt D left c ∧ Hid (FM wr go tr' w.heap.size fo no) ∧ Hid (∀ n, fo n = if left (.string n) then none else f n) ∧ Hid (∀ n, left (.string n) = true → Maps.has D (.string n) = true) ∧ Hid (no + c ≤ cnt) ∧ Hid (Below w.heap.size w wr) ∧ Hid (∀ k, k < w.heap.size → go k = g k) ∧ Hid (go w.heap.size = tm' ∧ go (w.heap.size + 1) = .o) ∧ Hid (w.heap.size + 2 ≤ wr.heap.size)) (fun _ wr => wr.rangeLeft bm (w.heap.size + 1))
  case atStart =>
    refine ⟨_, _, _, _, _, hrg0, HI, ?_, fun n hn => hn, ?_, HB0, fun k hk => by simp [hk], ?_, ?_⟩
    · intro n
      rcases unhide HD3 n with ⟨e1, e2⟩ | ⟨l, x, c, e1, e2, _⟩
      · rw [e2, e1]; rfl
      · rw [e2]; rfl
    · show 0 + _ ≤ _; rw [unhide HD2]; omega
    · refine ⟨by simp, ?_⟩
      show (if w.heap.size + 1 < w.heap.size then g (w.heap.size + 1) else if w.heap.size + 1 = w.heap.size then tm' else .o) = .o
      rw [if_neg (by omega), if_neg (by omega)]
    · show _ ≤ _; have := unhide HS0; omega
  case round =>
    obtain ⟨left, c, fo, no, go, hrg, HF, Hfo, Hlf, Hno, HB, Hgo, Htag, Hsz⟩ := hrel
    go_wp2_with (first | (at_next; refine wpList_next_ranges _ rfl _ rfl 9 law slE (fun x : List UInt8 => Value.string (str x)) (fun p : Option Nat × Nat × Nat => Value.slice (ad p.1) p.2.1 p.2.2) (fun key kl hkey => by obtain ⟨x, e, _⟩ := Maps.keyOf_str Tryz.underlying9 hkey; exact ⟨x, e⟩) (fun v y hv => by obtain ⟨x, n, c, e, _⟩ := slE_form hv; exact ⟨(x, n, c), e⟩) bm (w.heap.size + 1) cnt D left c rfl hrg ?_ ?_) | go_in)
    · intro hc0 hl0
      have HF1 : Hid (FM wr go tr' w.heap.size f cnt) := by
        have e : fo = f := by funext n; rw [unhide Hfo n, hl0]; rfl
        obtain ⟨D', k1, k2, k3⟩ := unhide HF
        rw [e] at k3
        have hh : ∀ x, Maps.has D (.string x) = Maps.has D' (.string x) := by
          intro x
          rcases unhide HD3 x with ⟨e1, e2⟩ | ⟨l, y, cc, e1, e2, _⟩
          · rcases k3 x with ⟨_, e4⟩ | ⟨l', y', cc', e3, e4, _⟩
            · rw [e2, e4]
            · rw [e1] at e3; cases e3
          · rcases k3 x with ⟨e3, e4⟩ | ⟨l', y', cc', e3, e4, _⟩
            · rw [e1] at e3; cases e3
            · rw [e2, e4]
        have hsz := size_has (unhide HD1) k1 hh
        have e5 : no = cnt := by rw [← k2, ← hsz]; exact unhide HD2
        subst e5
        exact ⟨D', k1, k2, k3⟩
      clear hrg
      go_wp2
      go_ret
      exact ⟨rfl, unhide HB, go, unhide HF1, unhide Hgo, (unhide Htag).1⟩
    · intro x p1 p2 p3 kl y1 y2 w1 c1 hkey hlx hv hat hrg1 hlt hg1 hs1 hen
      obtain ⟨x', ex, rfl, hxl⟩ := Maps.keyOf_str Tryz.underlying9 hkey
      obtain rfl : x = x' := by
        have e : Value.string (str x) = Value.string (str x') := ex
        simpa [str] using e
      have hfx : ∃ l, f x = some l ∧ p2 = l.length ∧ OwnB w 0 (ad p1) p3 l := by
        rcases unhide HD3 x with ⟨e1, e2⟩ | ⟨l, y0, cc, e1, e2, e3, e4, _⟩
        · have := unhide Hlf x hlx
          rw [e2] at this; cases this
        · refine ⟨l, e1, ?_⟩
          have hv' : slE (.slice (ad p1) p2 p3) = some (y1, y2) := hv
          rw [slE_mk] at hv'
          have e5 := hat (enS none 0 0)
          have e6 : enS p1 p2 p3 = y1 := congrArg Prod.fst (Option.some.inj hv')
          rw [e3, ← e6] at e5
          obtain ⟨i1, i2, i3⟩ := enS_inj e5
          exact ⟨i2.symm, by rw [← i1, ← i3]; exact e4⟩
      obtain ⟨l, hfl, hpl, hol⟩ := hfx
      subst hpl
      have hbw1 : Below w.heap.size w w1 := (unhide HB).grown hg1 (Nat.le_trans (Nat.le_refl _) (unhide HB).size) (fun j hj => by rw [← Option.some.inj hj]; omega)
      have hol1 := hol.below hbw1 (Nat.le_refl _)
      have hll : l.length ≤ 100000000 := by have := hl x; simp only [fget, hfl, Option.getD_some] at this; exact this
      have HRG := hide (And.intro hrg (And.intro hrg1 hlt))
      have HG1 := hide (And.intro hg1 hs1)
      have HX := hide (And.intro hfl hlx)
      clear hrg hrg1 hlt hg1 hfl hlx hat hv hkey ex hol
      go_wp2_with fail
      refine (bclone_any (ad p1) l.length p3 l w1 hol1.toBs rfl hll).mono ?_
      rintro e w2 ⟨y2, c2, r, rfl, hr, ho2, hb2⟩
      obtain rfl : r = l := unhide hr
      obtain ⟨w3, go3, hup, hfm3, hg3, hag, hfo3⟩ := clone_step (f := f) (by have := unhide Hsz; omega) (unhide HF) ⟨fun m e => h3 m (by rw [← (unhide Htag).1]; exact e), h4⟩ (unhide Hfo) hxl (unhide HX).1 (unhide HX).2 (by have := unhide Hno; omega) (unhide HG1).1 (unhide HG1).2 (by omega) (fun n e => h2 n (by rw [← e]; exact (unhide Htag).2)) (fun e => h1 (by rw [← (unhide Htag).1, ← e]; exact (unhide Htag).2)) hb2 ho2
      have HF3 := hide hfm3
      have HG3 := hide hg3
      have HA3 := hide hag
      have HO3 := hide hfo3
      have HB2 := hide hb2
      have HO2 := hide ho2
      have HB1 := hide hbw1
      clear hfm3 hg3 hag hfo3 hb2 ho2 hol1 hbw1
      have hRG : w3.ranges Tryz.prog 9 slE bm (w.heap.size + 1) cnt D (fun z => left z && !z.sameKey (.string x)) c1 := by
        have hb2 := unhide HB2
        have k2 : w1.grownBy w2 none := ⟨hb2.os, hb2.tape, hb2.output, hb2.size, fun k hk _ => hb2.block k hk⟩
        exact (((unhide HRG).2.1).kept k2 (by simp) (by simp)).kept (unhide HG3) (by simp; omega) (by simp)
      have HRG3 := hide hRG
      clear hRG
      go_wp2_with fail
      refine ⟨⟨_, c1, _, no + 1, go3, unhide HRG3, HF3, HO3, ?_, ?_, ?_, ?_, ?_, ?_⟩, ?_⟩
      · intro n hn
        simp only [Bool.and_eq_true] at hn
        exact unhide Hlf n hn.1
      · show no + 1 + c1 ≤ cnt
        have := unhide Hno
        have := (unhide HRG).2.2
        omega
      · show Below _ _ _
        have hb1 := unhide HB1
        have k1 := (unhide HG1).2
        refine (hb1.trans ((unhide HB2).mono hb1.size)).grown (unhide HG3) (Nat.le_trans hb1.size (unhide HB2).size) (fun j hj => by rw [← Option.some.inj hj]; exact Nat.le_refl _)
      · intro k hk
        have := unhide Hsz
        rw [unhide HA3 k (by omega)]
        exact unhide Hgo k hk
      · have := unhide Hsz
        exact ⟨(unhide HA3 _ (by omega)).trans (unhide Htag).1, (unhide HA3 _ (by omega)).trans (unhide Htag).2⟩
      · show _ ≤ _
        have q1 := unhide Hsz
        have q2 := (unhide HG1).1.size
        have q3 := (unhide HB2).size
        have q4 := (unhide HG3).size
        omega
      · rw [(unhide HRG3).left_eq, (unhide HRG).1.left_eq]
        exact (unhide HRG).2.2
#print axioms fclone_any
end Go.Proofs.YtmcgghjeocnpnaaGreatDoor
end
section
set_option linter.unusedVariables false
namespace Go.Proofs.YtmcgghjeocnpnaaGreatDoor
open Go.RowKit Go.Maps

def Md.reseen (M : Md) : Md := { M with seen := M.last, seenN := M.lastN }
def Md.crash (M : Md) (kl : List Bool) (z : Int) : Md :=
  { M.pend.foldl (fun m a => m.settle a.n) ((tornLast (keptL M.pend kl) z).foldl Md.lasts M).reseen with pend := [] }
theorem lasts_keep (l : List Ac) (M : Md) : (l.foldl Md.lasts M).pend = M.pend ∧ (l.foldl Md.lasts M).seen = M.seen ∧ (l.foldl Md.lasts M).seenN = M.seenN ∧ (l.foldl Md.lasts M).room = M.room ∧ (l.foldl Md.lasts M).peaks = M.peaks ∧ (l.foldl Md.lasts M).used = M.used := by
  induction l generalizing M with
  | nil => exact ⟨rfl, rfl, rfl, rfl, rfl, rfl⟩
  | cons a r ih => exact ih (M.lasts a)
theorem lasts_last (l : List Ac) (M : Md) : (l.foldl Md.lasts M).last = l.foldl doF M.last := by
  induction l generalizing M with
  | nil => rfl
  | cons a r ih => exact ih (M.lasts a)
theorem lasts_lastN (l : List Ac) (M : Md) : (l.foldl Md.lasts M).lastN ≤ M.lastN + l.length := by
  induction l generalizing M with
  | nil => simp
  | cons a r ih =>
    have h1 := ih (M.lasts a)
    have h2 : (M.lasts a).lastN ≤ M.lastN + 1 := doN_le _ _ _
    simp only [List.foldl_cons, List.length_cons]
    omega
theorem settles_keep (l : List Ac) (M : Md) : (l.foldl (fun m a => m.settle a.n) M).pend = M.pend ∧ (l.foldl (fun m a => m.settle a.n) M).seen = M.seen ∧ (l.foldl (fun m a => m.settle a.n) M).seenN = M.seenN ∧ (l.foldl (fun m a => m.settle a.n) M).room = M.room ∧ (l.foldl (fun m a => m.settle a.n) M).last = M.last ∧ (l.foldl (fun m a => m.settle a.n) M).lastN = M.lastN := by
  induction l generalizing M with
  | nil => exact ⟨rfl, rfl, rfl, rfl, rfl, rfl⟩
  | cons a r ih => exact ih (M.settle a.n)
theorem tornLast_len (l : List Ac) (z : Int) : (tornLast l z).length = l.length := by
  rcases List.eq_nil_or_concat l with rfl | ⟨r, t, rfl⟩
  · rfl
  · rw [List.concat_eq_append, tornLast_snoc]; simp
theorem tornLast_mem {l : List Ac} {z : Int} {a : Ac} (h : a ∈ tornLast l z) : ∃ b ∈ l, a.k = b.k ∧ a.n = b.n ∧ a.p = b.p ∧ a.b.length ≤ b.b.length := by
  rcases List.eq_nil_or_concat l with rfl | ⟨r, t, rfl⟩
  · simp [tornLast] at h
  · rw [List.concat_eq_append] at h ⊢
    rw [tornLast_snoc] at h
    rcases List.mem_append.1 h with h' | h'
    · exact ⟨a, List.mem_append_left _ h', rfl, rfl, rfl, Nat.le_refl _⟩
    · rw [List.mem_singleton.1 h']
      exact ⟨t, by simp, torn_k t z, torn_n t z, torn_p t z, torn_b t z⟩
theorem torn_pe {J : DJ} {M : Md} {N : Nat} (ok : MOk J M N) {kl : List Bool} {z : Int} {a : Ac} (h : a ∈ tornLast (keptL M.pend kl) z) : a.k ≤ 2 ∧ a.n.length ≤ 24 ∧ a.p + a.b.length ≤ N * 65600 := by
  obtain ⟨b, hb, e1, e2, e3, e4⟩ := tornLast_mem h
  have := ok.pe b (keptL_mem _ _ _ hb)
  rw [e1, e2, e3]
  exact ⟨this.1, this.2.1, by omega⟩
theorem MOk.crash {J J' : DJ} {M : Md} {N : Nat} {kl : List Bool} {z : Int} (h : MOk J M N) (hJ : J'.kc = J.kc + M.pend.length) : MOk J' (M.crash kl z) (N + 1) := by
  have g := h.mono (Nat.le_succ N)
  obtain ⟨e1, e2, e3, e4, e5, e6⟩ := settles_keep M.pend ((tornLast (keptL M.pend kl) z).foldl Md.lasts M).reseen
  have k := lasts_keep (tornLast (keptL M.pend kl) z) M
  have kN := lasts_lastN (tornLast (keptL M.pend kl) z) M
  rw [tornLast_len] at kN
  have kl' := keptL_len M.pend kl
  have hlN : ((tornLast (keptL M.pend kl) z).foldl Md.lasts M).lastN ≤ N := by have := h.ln; omega
  have hlen : ∀ n, (fget ((tornLast (keptL M.pend kl) z).foldl Md.lasts M).last n).length ≤ (N + 1) * 65600 := by
    intro n
    rw [lasts_last]
    exact fold_len _ _ g.ll (fun b hb => (torn_pe g hb).2.2) n
  refine ⟨?_, ?_, ?_, ?_, ?_, ?_, ?_, fun a ha => by simp [Md.crash] at ha⟩
  · show 0 ≤ (List.foldl _ _ _ : Md).room; rw [e4]; show 0 ≤ (List.foldl Md.lasts M _ : Md).room; rw [k.2.2.2.1]; exact h.r0
  · show (List.foldl _ _ _ : Md).room ≤ _; rw [e4]; show (List.foldl Md.lasts M _ : Md).room ≤ _; rw [k.2.2.2.1]; exact h.r1
  · show (List.foldl _ _ _ : Md).lastN + 0 ≤ _; rw [e6]; show (List.foldl Md.lasts M _ : Md).lastN + 0 ≤ _; omega
  · show (List.foldl _ _ _ : Md).seenN ≤ _; rw [e3]; show (List.foldl Md.lasts M _ : Md).lastN ≤ _; omega
  · show J'.kc + 0 ≤ _; have := h.kc; omega
  · intro n; show (fget (List.foldl _ _ _ : Md).seen n).length ≤ _; rw [e2]; exact hlen n
  · intro n; show (fget (List.foldl _ _ _ : Md).last n).length ≤ _; rw [e5]; exact hlen n

theorem perf2K {w w' : World} {g g' : Nat → Tg} {i : Nat} {J : DJ} {M : Md} {Z : Nat} {a : Ac} {y : Option Addr} {cy : Nat} {f : Files} {c : Nat} (h : PS w g i J M Z a y cy) (hf : Hid (FM w' g' (.lr i) J.L f c)) (x : Hid (St w w' g g' (fun t => t = g J.L ∨ t = .lr i a.n))) :
    PS w' g' i J { M with last := f, lastN := c } Z a y cy ∧ St w w' g g' (fun t => t = .l i ∨ ∃ n, t = .lr i n) := by
  have x' := unhide x
  rw [h.ds.gL] at x'
  exact ⟨h.step x' (by rintro (e | e) <;> cases e) (by rintro (e | e) <;> cases e) (h.ds.doLast (unhide hf) x'), x'.mono (fun t e => e.imp id (fun e => ⟨_, e⟩))⟩
theorem box_laidK {w : World} {g : Nat → Tg} {i : Nat} {J : DJ} {M : Md} (h : DS w g i J M) (t : At) (ht : Bs w t.2.1 t.2.2 t.1.b ∧ ∀ k, blk t.2.1 = some k → k < w.heap.size ∧ g k = .a i) (u : World) (hB : Below w.heap.size w u) (hbox : Box u w.heap.size (.int .i64 (t.1.k : Int)) (.string (str t.1.n)) (.int .i64 (t.1.p : Int)) (.slice t.2.1 t.1.b.length t.2.2)) (S : Tg → Prop) :
    ∃ g', PS u g' i J M w.heap.size t.1 t.2.1 t.2.2 ∧ St w u g g' S := by
  have x : ∀ S, St w u g (fun k => if k < w.heap.size then g k else .o) S := fun S => ⟨hB.os, hB.tape, hB.output, hB.size, fun k hk _ => hB.block k hk, fun k hk => by simp [hk]⟩
  refine ⟨fun k => if k < w.heap.size then g k else .o, ⟨h.st (x (fun _ => False)) (fun _ _ e => e), hbox, by simp, ht.1.below hB (Nat.le_refl _), fun k hk => ⟨Nat.lt_of_lt_of_le (ht.2 k hk).1 hB.size, ?_⟩⟩, x _⟩
  simp only [(ht.2 k hk).1, if_true]
  exact (ht.2 k hk).2

/-- Other files are seen. -/
theorem DS.newSeen {w w' : World} {g g' : Nat → Tg} {i : Nat} {J : DJ} {M : Md} (h : DS w g i J M) {B : Nat} (hf : FM w' g' (.sr i) B M.last M.lastN) (hb : Below w.heap.size w w') (ha : ∀ k, k < w.heap.size → g' k = g k) (hB : g' B = .s i) :
    DS (w'.setCell ⟨J.D, 2, none⟩ (.map (some B))) g' i { J with S := B } M.reseen ∧ St w (w'.setCell ⟨J.D, 2, none⟩ (.map (some B))) g g' (fun t => t.of i) := by
  have x0 : St w w' g g' (fun _ => False) := ⟨hb.os, hb.tape, hb.output, hb.size, fun k hk _ => hb.block k hk, ha⟩
  have h0 := h.st x0 (fun _ _ e => e)
  have x1 : St w' (w'.setCell ⟨J.D, 2, none⟩ (.map (some B))) g' g' (fun t => t = .d i) := St.ofG (grownBy_setCell w' ⟨J.D, 2, none⟩ _) (fun k hk => by rw [← Option.some.inj hk]; exact h0.gD)
  refine ⟨⟨?_, h0.gD, h0.gL, hB, h0.gK, h0.gP, h0.fl.st x1 ?_ ?_, hf.st x1 ?_ ?_, h0.pk.st x1 ?_, ?_⟩, (x0.mono (fun t e => e.elim)).trans (x1.mono (fun t e => by rw [e]; rfl))⟩
  · simp only [World.setCell, Array.getElem?_modify]
    rw [if_pos trivial, h0.dsk]
    rfl
  · rw [h0.gL]; intro e; cases e
  · intro m e; cases e
  · rw [hB]; intro e; cases e
  · intro m e; cases e
  · rw [h0.gK]; intro e; cases e
  · obtain ⟨l, h1, h2, h3⟩ := h0.pd
    refine ⟨l, h1, h2.st x1 (fun k hk => by rw [h0.gP k hk]; intro e; cases e), fun t ht => ⟨(h3 t ht).1.st x1 (fun k hk => by rw [((h3 t ht).2 k hk).2]; intro e; cases e), fun k hk => ?_⟩⟩
    have := (h3 t ht).2 k hk
    exact ⟨Nat.lt_of_lt_of_le this.1 x1.size, this.2⟩

def lastsTo (M : Md) (K : List Ac) (k : Nat) : Md := (K.take k).foldl Md.lasts M
def settlesTo (M : Md) (k : Nat) : Md := (M.pend.take k).foldl (fun m a => m.settle a.n) M

set_option maxRecDepth 20000 in
set_option maxHeartbeats 4000000 in
theorem crash_any (g : Nat → Tg) (i : Nat) (J : DJ) (M : Md) (N : Nat) (kp : Option Addr) (kl : List Bool) (kc KL : Nat) (z : Int) (w : World) (h : DS w g i J M) (ok : MOk J M N) (hN : N ≤ 1400) (HKL : Hid (KL = kl.length)) (hk : BRow w kp kl) (hkm : KL ≤ maxLen) :
    Calls Tryz.prog 17 #[.pointer (some ⟨J.D, 0, none⟩), .slice kp KL kc, .int .i64 z] w fun e w' => e = .returned (.int .i64 0) ∧ RS w w' g i J (M.crash kl z) (N + 1) := by
  have c2 := h.c2
  have c3 := h.c3
  have hpl : M.pend.length ≤ 1400 := by have := ok.ln; omega
  obtain ⟨l, hl1, hlo, hl3⟩ := h.pd
  have HLn : Hid (M.pend.length = l.length) := by show _ = _; rw [← hl1]; simp
  have h3 : ∀ t ∈ l, Bs w t.2.1 t.2.2 t.1.b ∧ t.1.b.length ≤ 1000000000 := fun t ht => ⟨(hl3 t ht).1, by
    have := (ok.pe t.1 (by rw [← hl1]; exact List.mem_map_of_mem ht)).2.2; omega⟩
  have HL1 := hide hl1
  have HL3 := hide hl3
  clear hl1 hl3
  go_enter Tryz.func17, Tryz.ntmps17
  go_wp2_with fail
  refine (unmade_not J.D J.S w c2).mono ?_
  rintro e w' ⟨rfl, rfl⟩
  go_wp2_with fail
  refine (kept_any J.P J.pc l kp kl kc z M.pend.length KL _ HLn HKL hlo hk (by omega) hkm h3).mono ?_
  rintro e w1 ⟨Q, qc, lo, rfl, hoq, HK1, HK2, HQ, hb1⟩
  have HOQ := hide hoq
  have hdt : Hid (∃ g1, DS w1 g1 i J M ∧ St w' w1 g g1 (fun t => t.of i) ∧ (∀ k, blk Q = some k → g1 k = .o) ∧ ∀ t ∈ lo, Bs w1 t.2.1 t.2.2 t.1.b ∧ ∀ k, blk t.2.1 = some k → k < w1.heap.size ∧ g1 k = .a i) := by
    have x : ∀ S, St w' w1 g (fun k => if k < w'.heap.size then g k else .o) S := fun S => ⟨hb1.os, hb1.tape, hb1.output, hb1.size, fun k hk _ => hb1.block k hk, fun k hk => by simp [hk]⟩
    refine ⟨_, h.st (x (fun _ => False)) (fun _ _ e => e), x _, fun k hk => ?_, fun t ht => ?_⟩
    · have := unhide HQ k hk
      show (if k < w'.heap.size then g k else .o) = _
      rw [if_neg (by omega)]
    · obtain ⟨u, hu, hb, hB⟩ := unhide HK2 t ht
      have hu3 := unhide HL3 u hu
      refine ⟨hB _ (hu3.1.below hb1 (Nat.le_refl _)), fun k hk => ?_⟩
      rw [hb] at hk
      have := hu3.2 k hk
      refine ⟨Nat.lt_of_lt_of_le this.1 hb1.size, ?_⟩
      show (if k < w'.heap.size then g k else .o) = _
      rw [if_pos this.1]; exact this.2
  obtain ⟨g1, hd1, hst1, htq, hbt⟩ := unhide hdt
  have HST1 := hide hst1
  have HTQ := hide htq
  have HBT := hide hbt
  have HD1 := hide hd1
  have hlol : lo.length ≤ 1400 := by
    have := congrArg List.length (unhide HK1)
    rw [tornLast_len] at this
    have h2 := keptL_len (l.map (·.1)) kl
    have h4 := unhide HLn
    simp at this h2
    omega
  obtain ⟨KA, hKA⟩ : ∃ KA, KA = tornLast (keptL M.pend kl) z := ⟨_, rfl⟩
  have HKA : Hid (lo.map (·.1) = KA) := by show _ = _; rw [hKA, ← unhide HL1]; exact unhide HK1
  have HKB := hide hKA
  clear hKA hoq hdt hst1 htq hbt hd1 hb1 hlo h3 HK1 HK2
  go_wp2
  go_loopw [21] (fun v wr => ∃ (k : Nat) (gk : Nat → Tg), k ≤ lo.length ∧ v = .int .i64 (k : Int) ∧ Hid (DS wr gk i J (lastsTo M KA k)) ∧ Hid (St w1 wr g1 gk (fun t => t = .l i ∨ ∃ n, t = .lr i n))) (fun v _ => lo.length - (intOf v).toNat)
  case atStart => exact ⟨0, g1, Nat.zero_le _, rfl, unhide HD1, St.refl _ _ _⟩
  case round =>
    obtain ⟨k, gk, hkl, rfl, HD, HS⟩ := hrel
    by_cases hlt : k < lo.length
    · have hlt2 : (k : Int) < (lo.length : Int) := by omega
      have hoq := (unhide HOQ).st (unhide HS) (fun j hj => by rw [unhide HTQ j hj]; rintro (e | ⟨n, e⟩) <;> cases e)
      obtain ⟨t, ht⟩ : ∃ t, lo[k]? = some t := ⟨_, List.getElem?_eq_getElem hlt⟩
      obtain ⟨G, hG, a0, a1, a2, a3⟩ := hoq.at ht
      have HTk : Hid (KA[k]? = some t.1) := by show _ = _; rw [← unhide HKA, List.getElem?_map, ht]; rfl
      have hbt := unhide HBT t (List.mem_of_getElem? ht)
      have HT3 : Hid (Bs wr t.2.1 t.2.2 t.1.b ∧ ∀ k, blk t.2.1 = some k → k < wr.heap.size ∧ gk k = .a i) := by
        refine ⟨hbt.1.st (unhide HS) (fun j hj => by rw [(hbt.2 j hj).2]; rintro (e | ⟨n, e⟩) <;> cases e), fun j hj => ⟨Nat.lt_of_lt_of_le (hbt.2 j hj).1 (unhide HS).size, ((unhide HS).ag j (hbt.2 j hj).1).trans (hbt.2 j hj).2⟩⟩
      have c3' : Hid (Q = some ⟨G, 0, none⟩) := hG
      obtain ⟨u, hu⟩ : ∃ u, u = wr.alloc (.cells #[.int .i64 (t.1.k : Int), .string (str t.1.n), .int .i64 (t.1.p : Int), .slice t.2.1 t.1.b.length t.2.2] 98) := ⟨_, rfl⟩
      have hBu : Below wr.heap.size wr u.drew := by rw [hu]; exact ((Below.refl _ _).alloc (Nat.le_refl _) _).drew
      have hbx : Box u.drew wr.heap.size (.int .i64 (t.1.k : Int)) (.string (str t.1.n)) (.int .i64 (t.1.p : Int)) (.slice t.2.1 t.1.b.length t.2.2) := by unfold Box; rw [hu]; exact heap_alloc_new wr _
      obtain ⟨g2, p1, st1⟩ := box_laidK (unhide HD) t (unhide HT3) u.drew hBu hbx (fun t => t = .l i ∨ ∃ n, t = .lr i n)
      have P1 := hide p1
      have ST1 := hide ((unhide HS).trans st1)
      have hS1 := And.intro p1.ds.c1 p1.box.cells
      have hby := p1.by'
      have hfl := p1.ds.fl
      have htL := p1.ds.trL
      have hxt : ∀ j, blk t.2.1 = some j → g2 j ≠ .lr i t.1.n := fun j hj e => by have := (p1.ty j hj).2; rw [e] at this; cases this
      have hmem : t.1 ∈ tornLast (keptL M.pend kl) z := by rw [← unhide HKB]; exact List.mem_of_getElem? (unhide HTk)
      obtain ⟨hk2, hn24, hpb⟩ := torn_pe ok hmem
      have hl' : (fget (lastsTo M KA k).last t.1.n).length ≤ 1000000000 := by
        unfold lastsTo
        rw [lasts_last]
        have := fold_len (B := N * 65600) (KA.take k) M.last ok.ll (fun b hb => (torn_pe ok (by rw [← unhide HKB]; exact List.mem_of_mem_take hb)).2.2) t.1.n
        omega
      have hc1 : (lastsTo M KA k).lastN ≤ 1000000000 := by
        have h1 := lasts_lastN (KA.take k) M
        have h2 := ok.ln
        unfold lastsTo
        have h3 : (KA.take k).length ≤ k := by simp; omega
        omega
      have hn1 : t.1.n.length ≤ 1000 := by omega
      have hp1 : t.1.p ≤ 1000000000 := by omega
      have hb1 : t.1.b.length ≤ 1000000000 := by omega
      have HU := hide hu
      clear hu hBu hbx p1 st1 hpb hoq ht hbt hmem
      go_wp2_with fail
      rw [← unhide HU]
      clear hG a0 a1 a2 a3 HU
      go_region_held3 (fun w' => w'.cell? ⟨J.D, 1, none⟩ = some (.map (some J.L)) ∧ w'.cell? ⟨wr.heap.size, 0, none⟩ = some (.int .i64 (t.1.k : Int)) ∧ w'.cell? ⟨wr.heap.size, 1, none⟩ = some (.string (str t.1.n)) ∧ w'.cell? ⟨wr.heap.size, 2, none⟩ = some (.int .i64 (t.1.p : Int)) ∧ w'.cell? ⟨wr.heap.size, 3, none⟩ = some (.slice t.2.1 t.1.b.length t.2.2)) (first | exact hS1 | exact And.intro p2.ds.c1 p2.box.cells) ((go_at_call 43; refine (do_any g2 (.lr i) J.L (lastsTo M KA k).last (lastsTo M KA k).lastN t.1 (t.1.k : Int) (t.1.p : Int) t.2.1 t.2.2 _ hfl htL rfl hk2 hn1 rfl hby hxt hl' hp1 hb1 hc1).mono ?_; rintro e w2 ⟨rfl, g3, HF, HT⟩; obtain ⟨p2, st2⟩ := perf2K (unhide P1) HF HT))
      have HF3 : Hid (DS w2 g3 i J (lastsTo M KA (k + 1))) := by
        have e : lastsTo M KA (k + 1) = (lastsTo M KA k).lasts t.1 := by
          unfold lastsTo
          rw [take_snoc (unhide HTk), List.foldl_append]
          rfl
        rw [e]
        exact p2.ds
      have ST2 := hide ((unhide ST1).trans st2)
      clear p2 st2 hS1 hby hfl htL hxt P1 ST1 HF HT
      go_wp2
      go_roundw
      case rel => exact ⟨k + 1, g3, by omega, by go_num, HF3, ST2⟩
      case measure => simp [intOf]; omega
    · obtain rfl : k = lo.length := by omega
      obtain ⟨M1, hM1⟩ : ∃ M1, M1 = KA.foldl Md.lasts M := ⟨_, rfl⟩
      have hE : lastsTo M KA lo.length = M1 := by
        rw [hM1]
        unfold lastsTo
        rw [List.take_of_length_le (by rw [← unhide HKA]; simp)]
      have hds : DS wr gk i J M1 := by rw [← hE]; exact unhide HD
      have hM1p : M1.pend = M.pend := by rw [hM1]; exact (lasts_keep KA M).1
      have hM1l : ∀ n, (fget M1.last n).length ≤ N * 65600 := by
        intro n
        rw [hM1, lasts_last]
        exact fold_len (B := N * 65600) KA M.last ok.ll (fun b hb => (torn_pe ok (by rw [← unhide HKB]; exact hb)).2.2) n
      have hM1N : M1.lastN ≤ 2800 := by
        rw [hM1]
        have h1 := lasts_lastN KA M
        have h2 := ok.ln
        have h3 : KA.length = lo.length := by rw [← unhide HKA]; simp
        omega
      have d1 := hds.c1
      have HM1 := hide hM1
      have HMP := hide hM1p
      have HML := hide hM1l
      have HDS := hide hds
      have hfl := hds.fl
      have hSTw : Hid (St w' wr g gk (fun t => t.of i)) := (unhide HST1).trans ((unhide HS).mono (fun t e => by rcases e with e | ⟨n, e⟩ <;> (rw [e]; rfl)))
      have hcl : ∀ n, (fget M1.last n).length ≤ 100000000 := fun n => by have := unhide HML n; omega
      have hcN : M1.lastN ≤ 1000000 := by omega
      have HCL := hide hcl
      clear hM1 hE hds hM1p hM1l HD HS hcl
      go_wp2_with fail
      refine (fclone_any gk (.lr i) (.sr i) (.s i) J.L M1.last M1.lastN wr hfl (by intro e; cases e) (by intro n e; cases e) (by intro n e; cases e) (by intro m n e; cases e; rfl) (unhide HCL) hcN).mono ?_
      rintro e w2 ⟨rfl, hb2, g2, hf2, hag2, htm2⟩
      have hD2 := (unhide HDS).below hb2
      have q2 := hD2.c2
      have f2 := hD2.fr 2
      have q3 := hD2.c3
      rw [unhide HMP] at q3
      obtain ⟨d2, st2⟩ := (unhide HDS).newSeen hf2 hb2 hag2 htm2
      obtain ⟨u2, hu2⟩ : ∃ u2, u2 = w2.setCell ⟨J.D, 2, none⟩ (.map (some wr.heap.size)) := ⟨_, rfl⟩
      rw [← hu2] at d2 st2
      have HU2 := hide hu2
      have HD2 := hide d2
      have HST2 := hide ((unhide hSTw).trans st2)
      obtain ⟨B2, hB2⟩ : ∃ B2, B2 = wr.heap.size := ⟨_, rfl⟩
      rw [← hB2] at HD2 HU2
      clear hu2 d2 st2 hD2 hf2 hb2 hag2 htm2 hfl d1 HDS hSTw
      rw [← hB2]
      clear hB2
      go_wp2
      rw [← unhide HU2]
      clear q2 f2 q3 HU2
      have HMPR : Hid (M1.reseen.pend = M.pend) := unhide HMP
      go_loopw [45] (fun v wx => ∃ (k : Nat), k ≤ M.pend.length ∧ v = .int .i64 (k : Int) ∧ Hid (DS wx g2 i { J with S := B2, kc := J.kc + k } (settlesTo M1.reseen k)) ∧ Hid (St w' wx g g2 (fun t => t.of i))) (fun v _ => M.pend.length - (intOf v).toNat)
      case atStart => exact ⟨0, Nat.zero_le _, rfl, unhide HD2, unhide HST2⟩
      case round =>
        rename_i wx
        obtain ⟨k, hk5, rfl, HD, HS⟩ := hrel
        by_cases hlt5 : k < M.pend.length
        · have hlt6 : (k : Int) < (M.pend.length : Int) := by omega
          obtain ⟨l5, hl5, hlo5, hl35⟩ := (unhide HD).pd
          simp only at hlo5
          have hpe : (settlesTo M1.reseen k).pend = M.pend := (settles_keep _ _).1.trans (unhide HMPR)
          obtain ⟨t, ht⟩ : ∃ t, l5[k]? = some t := by
            have : k < l5.length := by have := congrArg List.length hl5; rw [hpe] at this; simp at this; omega
            exact ⟨_, List.getElem?_eq_getElem this⟩
          obtain ⟨G, hG, a0, a1, a2, a3⟩ := hlo5.at ht
          have HTk : Hid (M.pend[k]? = some t.1) := by
            show _ = _
            rw [← hpe, ← hl5, List.getElem?_map, ht]; rfl
          have c3' : Hid (J.P = some ⟨G, 0, none⟩) := hG
          obtain ⟨hk2, hn24, hpb⟩ := ok.pe t.1 (List.mem_of_getElem? (unhide HTk))
          have hn1 : t.1.n.length ≤ 1000 := by omega
          have hkc : J.kc + k ≤ 1000000 := by have := ok.kc; omega
          have hsl' : (fget (settlesTo M1.reseen k).seen t.1.n).length ≤ 1000000000 := by
            have e1 : (settlesTo M1.reseen k).seen = M1.last := (settles_keep _ _).2.1
            rw [e1]
            have := unhide HML t.1.n
            omega
          have hDu := (unhide HD).below (w' := _) (show Below _ _ (World.alloc _ (.cells #[.int .i64 (t.1.k : Int), .string (str t.1.n), .int .i64 (t.1.p : Int), .slice t.2.1 t.1.b.length t.2.2] 98)) from (Below.refl _ _).alloc (Nat.le_refl _) _)
          have HDu := hide hDu
          clear hDu hl5 hlo5 hl35 hpe ht hpb
          go_wp2_with fail
          refine (settle_any g2 i { J with S := B2, kc := J.kc + k } (settlesTo M1.reseen k) t.1.n _ (unhide HDu) hn1 hkc hsl').mono ?_
          rintro e w5 ⟨rfl, HD5, HS5⟩
          have HF5 : Hid (DS w5 g2 i { J with S := B2, kc := J.kc + (k + 1) } (settlesTo M1.reseen (k + 1))) := by
            have e : settlesTo M1.reseen (k + 1) = (settlesTo M1.reseen k).settle t.1.n := by
              unfold settlesTo
              rw [unhide HMPR, take_snoc (unhide HTk), List.foldl_append]
              rfl
            rw [e]
            exact HD5
          have HS6 : Hid (St w' w5 g g2 (fun t => t.of i)) := ((unhide HS).trans (St.ofBelow g2 _ ((Below.refl _ _).alloc (Nat.le_refl _) _))).trans ((unhide HS5).mono (fun t e => by rcases e with e | e <;> (rw [e]; rfl)))
          clear hG a0 a1 a2 a3 HD5 HS5 HDu
          go_wp2
          go_roundw
          case rel => exact ⟨k + 1, by omega, by go_num, HF5, HS6⟩
          case measure => simp [intOf]; omega
        · obtain rfl : k = M.pend.length := by omega
          have HE : Hid ({ settlesTo M1.reseen M.pend.length with pend := [] } = M.crash kl z) := by
            show _ = _
            unfold settlesTo Md.crash
            rw [unhide HMPR, List.take_length, ← unhide HKB, ← unhide HM1]
          have HC := hide (unhide HD).clr
          have q3 := (unhide HD).c3
          have f3 := (unhide HD).fr 3
          simp only at q3 f3
          go_wp2
          go_ret
          refine ⟨rfl, g2, { J with S := B2, P := none, pc := 0, kc := J.kc + M.pend.length }, ?_, ok.crash rfl, (unhide HS).trans (unhide HC).2, rfl⟩
          have := (unhide HC).1
          rw [unhide HE] at this
          exact this
#print axioms crash_any
end Go.Proofs.YtmcgghjeocnpnaaGreatDoor
end
section
set_option linter.unusedVariables false
namespace Go.Proofs.YtmcgghjeocnpnaaGreatDoor
open Go.RowKit Go.Maps

set_option maxHeartbeats 1000000 in
theorem clos_any (t : At) (n : Nm) (Z : Nat) (w : World) (hz : w.cell? ⟨Z, 0, none⟩ = some (.string (str n))) :
    Calls Tryz.prog 121 #[.agg #[.int .i64 (t.1.k : Int), .string (str t.1.n), .int .i64 (t.1.p : Int), .slice t.2.1 t.1.b.length t.2.2], .pointer (some ⟨Z, 0, none⟩)] w fun e w' => e = .returned (.bool (t.1.n == n)) ∧ Below w.heap.size w w' := by
  have t1 := toList_str t.1.n
  have t2 := toList_str n
  have hZ : Z < w.heap.size := World.block_lt_of_cell? w _ hz
  have hz2 : ∀ o, (w.alloc o).cell? ⟨Z, 0, none⟩ = some (.string (str n)) := fun o => by
    rw [((Below.refl w.heap.size w).alloc (Nat.le_refl _) o).cell hZ]; exact hz
  go_enter Tryz.func121, Tryz.ntmps121
  go_wp2
  go_ret
  exact ⟨rfl, (Below.refl _ _).alloc (Nat.le_refl _) _⟩

/-- The first act of that name. -/
def fidx (n : Nm) : List At → Nat
  | [] => 0
  | t :: r => if t.1.n == n then 0 else fidx n r + 1
theorem fidx_le (n : Nm) : ∀ l, fidx n l ≤ l.length
  | [] => Nat.le_refl _
  | t :: r => by unfold fidx; split <;> simp; exact fidx_le n r

set_option maxRecDepth 20000 in
set_option maxHeartbeats 2000000 in
theorem idxf_any (P : Option Addr) (pc : Nat) (l : List At) (L : Nat) (n : Nm) (Z : Nat) (w : World) (HL : Hid (L = l.length)) (hl : L ≤ 1000000) (ho : OwnA w P pc l) (hz : w.cell? ⟨Z, 0, none⟩ = some (.string (str n))) :
    Calls Tryz.prog 144 #[.slice P L pc, .func (.func 121) #[] #[.pointer (some ⟨Z, 0, none⟩)]] w fun e w' => Below w.heap.size w w' ∧ ((e = .returned (.int .i64 (-1)) ∧ Hid (∀ t ∈ l, (t.1.n == n) = false)) ∨ ∃ k : Nat, k < L ∧ e = .returned (.int .i64 (k : Int)) ∧ Hid (∀ t ∈ l.take k, (t.1.n == n) = false) ∧ Hid (∃ t, l[k]? = some t ∧ (t.1.n == n) = true)) := by
  go_enter Tryz.func144, Tryz.ntmps144
  go_wp2
  go_loopw [8] (fun v wr => ∃ k : Nat, k ≤ L ∧ v = .int .i64 (k : Int) ∧ Hid (∀ t ∈ l.take k, (t.1.n == n) = false) ∧ Hid (Below w.heap.size w wr)) (fun v _ => L - (intOf v).toNat)
  case atStart => exact ⟨0, Nat.zero_le _, rfl, (fun t ht => by simp at ht), Below.refl _ _⟩
  case round =>
    obtain ⟨k, hk, rfl, HA, HB⟩ := hrel
    by_cases hlt : k < L
    · have hlt2 : (k : Int) < (L : Int) := by omega
      obtain ⟨t, ht⟩ : ∃ t, l[k]? = some t := ⟨_, List.getElem?_eq_getElem (by have := unhide HL; omega)⟩
      obtain ⟨G, hG, a0, a1, a2, a3⟩ := (ho.below (unhide HB)).at ht
      have HT := hide ht
      have hzr : wr.cell? ⟨Z, 0, none⟩ = some (.string (str n)) := by rw [(unhide HB).cell (World.block_lt_of_cell? w _ hz)]; exact hz
      have HG := hide hG
      clear ht
      cases hb : (t.1.n == n) with
      | true =>
        have HBt := hide hb
        clear hb
        go_wp2_with fail
        refine (clos_any t n Z wr hzr).mono ?_
        rintro e w2 ⟨rfl, hb2⟩
        rw [unhide HBt]
        go_wp2
        go_ret
        exact ⟨(unhide HB).trans (hb2.mono (unhide HB).size), .inr ⟨k, hlt, rfl, HA, ⟨t, unhide HT, unhide HBt⟩⟩⟩
      | false =>
        have HBt := hide hb
        clear hb
        go_wp2_with fail
        refine (clos_any t n Z wr hzr).mono ?_
        rintro e w2 ⟨rfl, hb2⟩
        rw [unhide HBt]
        have HB2 := hide ((unhide HB).trans (hb2.mono (unhide HB).size))
        have HA2 : Hid (∀ t ∈ l.take (k + 1), (t.1.n == n) = false) := by
          intro u hu
          rw [take_snoc (unhide HT)] at hu
          rcases List.mem_append.1 hu with h' | h'
          · exact unhide HA u h'
          · rw [List.mem_singleton.1 h']; exact unhide HBt
        go_wp2_with fail
        rw [← unhide HG]
        clear hG a0 a1 a2 a3
        go_wp2
        go_roundw
        case rel => exact ⟨k + 1, by omega, by go_num, HA2, HB2⟩
        case measure => simp [intOf]; omega
    · obtain rfl : k = L := by omega
      go_wp2
      go_ret
      refine ⟨unhide HB, .inl ⟨rfl, fun t ht => unhide HA t ?_⟩⟩
      rw [List.take_of_length_le (by have := unhide HL; omega)]
      exact ht

theorem list_set4x {α : Type} (L : List α) (m : Nat) (v0 v1 v2 v3 : α) (h : m + 4 ≤ L.length) (j : Nat) :
    ((((L.set m v0).set (m + 1) v1).set (m + 2) v2).set (m + 3) v3)[j]? = if m ≤ j ∧ j < m + 4 then [v0, v1, v2, v3][j - m]? else L[j]? := by
  by_cases hj : m ≤ j ∧ j < m + 4
  · rw [if_pos hj]
    rcases (by omega : j = m ∨ j = m + 1 ∨ j = m + 2 ∨ j = m + 3) with rfl | rfl | rfl | rfl
    · rw [List.getElem?_set_ne (by omega), List.getElem?_set_ne (by omega), List.getElem?_set_ne (by omega), List.getElem?_set_self (by omega)]; simp
    · rw [List.getElem?_set_ne (by omega), List.getElem?_set_ne (by omega), List.getElem?_set_self (by simp; omega)]; simp
    · rw [List.getElem?_set_ne (by omega), List.getElem?_set_self (by simp; omega)]; simp
    · rw [List.getElem?_set_self (by simp; omega)]; simp
  · rw [if_neg hj, List.getElem?_set_ne (by omega), List.getElem?_set_ne (by omega), List.getElem?_set_ne (by omega), List.getElem?_set_ne (by omega)]
/-- The act at a place of a row is written anew. -/
theorem OwnA.setAt {w : World} {G cap : Nat} {l : List At} (h : OwnA w (some ⟨G, 0, none⟩) cap l) (i : Nat) (hi : i < l.length) (u : At) :
    OwnA ((((w.setCell ⟨G, i * 4, none⟩ (.int .i64 (u.1.k : Int))).setCell ⟨G, i * 4 + 1, none⟩ (.string (str u.1.n))).setCell ⟨G, i * 4 + 2, none⟩ (.int .i64 (u.1.p : Int))).setCell ⟨G, i * 4 + 3, none⟩ (.slice u.2.1 u.1.b.length u.2.2)) (some ⟨G, 0, none⟩) cap (l.set i u) := by
  rcases h.cases with ⟨e, _⟩ | ⟨g, cur, e, hg, hle, hm, hs, ht⟩
  · cases e
  · obtain rfl : G = g := by simpa using e
    have hlen : (l.set i u).length = l.length := by simp
    refine ⟨acs_length _, .inr ⟨G, cap, (((cur.set! (i * 4) (.int .i64 (u.1.k : Int))).set! (i * 4 + 1) (.string (str u.1.n))).set! (i * 4 + 2) (.int .i64 (u.1.p : Int))).set! (i * 4 + 3) (.slice u.2.1 u.1.b.length u.2.2), by rw [hlen], Nat.zero_le _, ?_, by rw [hlen]; exact hle, hm, by simpa using hs, ?_⟩⟩
    · simp only [World.setCell, Array.getElem?_modify]
      rw [if_pos trivial, if_pos trivial, if_pos trivial, if_pos trivial, hg]
      rfl
    · rw [hlen]
      have h9 := Nat.mul_le_mul_right 4 hle
      have e9 : cur.toList.length = cap * 4 := by rw [Array.length_toList]; exact hs
      have key := list_set4x cur.toList (i * 4) (.int .i64 (u.1.k : Int)) (.string (str u.1.n)) (.int .i64 (u.1.p : Int)) (.slice u.2.1 u.1.b.length u.2.2) (by omega)
      apply List.ext_getElem?
      intro m
      rw [List.getElem?_take]
      by_cases hm4 : m < l.length * 4
      · rw [if_pos hm4]
        have e1 : ((((cur.set! (i * 4) (.int .i64 (u.1.k : Int))).set! (i * 4 + 1) (.string (str u.1.n))).set! (i * 4 + 2) (.int .i64 (u.1.p : Int))).set! (i * 4 + 3) (.slice u.2.1 u.1.b.length u.2.2)).toList = ((((cur.toList.set (i * 4) (.int .i64 (u.1.k : Int))).set (i * 4 + 1) (.string (str u.1.n))).set (i * 4 + 2) (.int .i64 (u.1.p : Int))).set (i * 4 + 3) (.slice u.2.1 u.1.b.length u.2.2)) := by simp
        rw [e1, key m]
        have hq : m / 4 < l.length := by omega
        have hmd : m = (m / 4) * 4 + m % 4 := by omega
        by_cases hmi : m / 4 = i
        · rw [if_pos (by omega)]
          conv => rhs; rw [hmd]
          rw [acs_get (l.set i u) (m / 4) (m % 4) u (by rw [hmi]; simp [hi]) (by omega)]
          have : m - i * 4 = m % 4 := by omega
          rw [this]; rfl
        · rw [if_neg (by omega)]
          have hct : cur.toList[m]? = (acs l)[m]? := by rw [← ht, List.getElem?_take, if_pos hm4]
          rw [hct]
          conv => lhs; rw [hmd]
          conv => rhs; rw [hmd]
          rw [acs_get (l.set i u) (m / 4) (m % 4) l[m / 4] (by rw [List.getElem?_set_ne (by omega)]; exact List.getElem?_eq_getElem hq) (by omega), acs_get l (m / 4) (m % 4) l[m / 4] (List.getElem?_eq_getElem hq) (by omega)]
      · rw [if_neg hm4, List.getElem?_eq_none (by rw [acs_length, hlen]; omega)]
/-- What stands behind is cleared. -/
theorem run_clr {w : World} {G cap c : Nat} {l : List At} (h : OwnA w (some ⟨G, 0, none⟩) cap l) (i : Nat) (hi : i < l.length) (ty : TypeId) :
    ∃ w', (Builtin.clear_ #[76] ty #[.slice (some ⟨G, i * 4, none⟩) (l.length - i) c]).run Tryz.prog w = .ok (.tuple #[]) w' ∧ OwnA w' (some ⟨G, 0, none⟩) cap (l.take i) ∧ w.grownBy w' (some G) := by
  rcases h.cases with ⟨e, _⟩ | ⟨g, cur, e, hg, hle, hm, hs, ht⟩
  · cases e
  · obtain rfl : G = g := by simpa using e
    have hzr : ∀ w, (zeroValue 98).run Tryz.prog w = .ok (.agg #[.int .i64 0, .string ⟨#[]⟩, .int .i64 0, .slice none 0 0]) w := fun w => by kernel_rfl
    have hzl : (Builtin.zeroCells (Value.agg #[.int .i64 0, .string ⟨#[]⟩, .int .i64 0, .slice none 0 0]).cells (l.length - i)).toList.length = (l.length - i) * 4 := by
      rw [Array.length_toList, size_zeroCells]; rfl
    have hone : ∀ v ∈ (Builtin.zeroCells (Value.agg #[.int .i64 0, .string ⟨#[]⟩, .int .i64 0, .slice none 0 0]).cells (l.length - i)).toList, v.oneCell' = true := by
      intro v hv
      simp [Builtin.zeroCells] at hv
      obtain ⟨a, ha, rfl⟩ := hv
      simp only [Value.cells]
      rcases (by omega : a % 4 = 0 ∨ a % 4 = 1 ∨ a % 4 = 2 ∨ a % 4 = 3) with h' | h' | h' | h' <;> simp [h'] <;> rfl
    have h9 := Nat.mul_le_mul_right 4 hle
    have hst := run_storeCells_at Tryz.prog G (i * 4) 98 (Builtin.zeroCells (Value.agg #[.int .i64 0, .string ⟨#[]⟩, .int .i64 0, .slice none 0 0]).cells (l.length - i)).toList 0 cur w hg (by rw [hzl, hs]; omega) hone
    simp only [Nat.add_zero] at hst
    have hn0 : l.length - i ≠ 0 := by omega
    obtain ⟨q, hq⟩ : ∃ q, l.length - i = q + 1 := ⟨l.length - i - 1, by omega⟩
    refine ⟨w.setRow G (cur.toList.take (i * 4) ++ (Builtin.zeroCells (Value.agg #[.int .i64 0, .string ⟨#[]⟩, .int .i64 0, .slice none 0 0]).cells (l.length - i)).toList ++ cur.toList.drop (i * 4 + (Builtin.zeroCells (Value.agg #[.int .i64 0, .string ⟨#[]⟩, .int .i64 0, .slice none 0 0]).cells (l.length - i)).toList.length)).toArray, ?_, ?_, ?_⟩
    · rw [hq] at hst ⊢
      simp [Builtin.clear_, run_underlying Tryz.underlying76, hzr, hst, Result.andThen]
    · have e1 : (l.take i).length = i := by simp; omega
      refine ⟨acs_length _, .inr ⟨G, cap, _, rfl, Nat.zero_le _, setRow_heap w G cur _ 98 _ hg, by omega, hm, ?_, ?_⟩⟩
      · simp only [List.size_toArray, List.length_append, List.length_take, List.length_drop, Array.length_toList, hzl]
        omega
      · rw [e1, List.toList_toArray, List.append_assoc]
        have h5 : (cur.toList.take (i * 4)).length = i * 4 := by rw [List.length_take, Array.length_toList]; omega
        rw [List.take_append_of_le_length (by omega), List.take_take, Nat.min_self]
        have h2 : (cur.toList.take (l.length * 4)).take (i * 4) = (acs l).take (i * 4) := by rw [ht]
        rw [List.take_take, Nat.min_eq_left (by omega)] at h2
        rw [h2]
        have h6 : acs l = acs (l.take i) ++ acs (l.drop i) := by rw [← acs_append, List.take_append_drop]
        rw [h6, ← show (acs (l.take i)).length = i * 4 by rw [acs_length, e1], List.take_left]
    · exact ⟨rfl, rfl, rfl, by simp, fun k _ hk => setRow_other w G k _ (fun e => hk (by rw [e]))⟩
#print axioms OwnA.setAt
#print axioms run_clr
end Go.Proofs.YtmcgghjeocnpnaaGreatDoor
end
section
set_option linter.unusedVariables false
namespace Go.Proofs.YtmcgghjeocnpnaaGreatDoor
open Go.RowKit Go.Maps

def keepN (n : Nm) (t : At) : Bool := !(t.1.n == n)
theorem filt_all {n : Nm} {l : List At} (h : ∀ t ∈ l, (t.1.n == n) = false) : l.filter (keepN n) = l := by
  rw [List.filter_eq_self]
  intro t ht
  unfold keepN
  rw [h t ht]; rfl
theorem Tryz.elemA : Tryz.prog.underlying 76 = some (.slice (Tryz.prog.elem 76)) := by kernel_rfl
theorem Tryz.sizeA (w : World) : (sizeOf (Tryz.prog.elem 76)).run Tryz.prog w = .ok 4 w := by kernel_rfl
theorem acts_from (G n cap E : Nat) (w : World) (h1 : E < n) (h2 : n ≤ cap) :
    (Instr.slice 76 (.slice (some ⟨G, 0, none⟩) n cap) (some (.int .i64 (E : Int))) none none).run Tryz.prog w = .ok (.slice (some ⟨G, E * 4, none⟩) (n - E) (cap - E)) w := by
  rw [run_slice_l (P := Tryz.prog) w 76 _ n cap Tryz.elemA .i64 (E : Int) (by omega) (by omega), Tryz.sizeA]
  simp only [Result.andThen, sliced, Int.toNat_natCast]
  rw [if_neg (by omega), Option.map_some, addr_add, Nat.zero_add]
theorem acts_to (G n cap H : Nat) (w : World) (h1 : H ≤ cap) :
    (Instr.slice 76 (.slice (some ⟨G, 0, none⟩) n cap) none (some (.int .i64 (H : Int))) none).run Tryz.prog w = .ok (.slice (some ⟨G, 0, none⟩) H cap) w := by
  rw [run_slice_h (P := Tryz.prog) w 76 _ n cap Tryz.elemA .i64 (H : Int) (by omega) (by omega), Tryz.sizeA]
  simp only [Result.andThen, sliced, Int.toNat_natCast, Nat.sub_zero, Option.map_some, Nat.zero_mul, addr_add, Nat.add_zero, ite_self]
theorem wp_clr_run (w : World) {ops : Array Oper} {rest : List Oper} {o : Oper} {a : Act} {Q : Exit → Act → World → Prop} (hg : o.guard = none) (m : Operand) (t : TypeId) (hop : o.op = Op.call { callee := Callee.builtin Builtin.clear, args := #[m], argTypes := #[t] })
    (vm : Value) (hm : a.eval m = vm) (w' : World) (hr : (Builtin.clear_ #[t] o.type #[vm]).run Tryz.prog w = .ok (.tuple #[]) w') (hK : wpList Tryz.prog ops Q rest (a.put o.dst (.tuple #[])) w') : wpList Tryz.prog ops Q (o :: rest) a w := by
  refine wpList_plain hg fun K' hK' => ?_
  unfold Oper.wp
  simp [execOp, hop, resolve, invoke, builtin, hm, hr, Result.andThen]
  exact hK' _ _ hK

set_option maxRecDepth 20000 in
set_option maxHeartbeats 4000000 in
theorem delf_some (G pc : Nat) (l : List At) (L : Nat) (n : Nm) (Z : Nat) (w : World) (HL : Hid (L = l.length)) (hl : L ≤ 1000000) (ho : OwnA w (some ⟨G, 0, none⟩) pc l) (hz : w.cell? ⟨Z, 0, none⟩ = some (.string (str n))) (hZG : Z ≠ G) :
    Calls Tryz.prog 120 #[.slice (some ⟨G, 0, none⟩) L pc, .func (.func 121) #[] #[.pointer (some ⟨Z, 0, none⟩)]] w fun e w' => ∃ lo, e = .returned (.slice (some ⟨G, 0, none⟩) lo.length pc) ∧ Hid (lo = l.filter (keepN n)) ∧ OwnA w' (some ⟨G, 0, none⟩) pc lo ∧ w.grownBy w' (some G) := by
  have hGlt : G < w.heap.size := ho.lt G rfl
  have hZlt : Z < w.heap.size := World.block_lt_of_cell? w _ hz
  have hlc : L ≤ pc := by
    rcases ho.cases with ⟨e, _⟩ | ⟨g, cur, e, _, hle, _⟩
    · cases e
    · have := unhide HL; omega
  go_enter Tryz.func120, Tryz.ntmps120
  go_wp2_with fail
  refine (idxf_any (some ⟨G, 0, none⟩) pc l L n Z w HL hl ho hz).mono ?_
  rintro e w1 ⟨hb1, ⟨rfl, HA⟩ | ⟨k, hkL, rfl, HA, HT⟩⟩
  · go_wp2
    go_ret
    refine ⟨l, by rw [← unhide HL]; rfl, (filt_all (unhide HA)).symm, ho.below hb1, ⟨hb1.os, hb1.tape, hb1.output, hb1.size, fun j hj _ => hb1.block j hj⟩⟩
  · have hk1 : ((k : Int) == -1) = false := by simp
    have hk2 : (k : Int) < (L : Int) := by omega
    go_wp2
    go_loopw [5, 6] (fun s v wr => ∃ (I Jn : Nat) (cur : List At), k + 1 ≤ Jn ∧ Jn ≤ L ∧ I < Jn ∧ s = .int .i64 (I : Int) ∧ v = .int .i64 (Jn : Int) ∧ Hid (cur.length = L) ∧ Hid (cur.take I = (l.take Jn).filter (keepN n)) ∧ Hid (cur.drop Jn = l.drop Jn) ∧ Hid (OwnA wr (some ⟨G, 0, none⟩) pc cur) ∧ Hid (w.grownBy wr (some G))) (fun _ v _ => L - (intOf v).toNat)
    case atStart =>
      refine ⟨k, k + 1, l, Nat.le_refl _, by omega, by omega, rfl, by go_num, (unhide HL).symm, ?_, rfl, ho.below hb1, ⟨hb1.os, hb1.tape, hb1.output, hb1.size, fun j hj _ => hb1.block j hj⟩⟩
      show _ = _
      obtain ⟨t, ht, hb⟩ := unhide HT
      rw [take_snoc ht, List.filter_append, filt_all (unhide HA)]
      simp [keepN, hb]
    case round =>
      obtain ⟨I, Jn, cur, hkJ, hJL, hIJ, rfl, rfl, HC, HF, HD, HO, HG⟩ := hrel
      by_cases hlt : Jn < L
      · have hlt2 : (Jn : Int) < (L : Int) := by omega
        have hIL : (I : Int) < (L : Int) := by omega
        obtain ⟨t, ht⟩ : ∃ t, l[Jn]? = some t := ⟨_, List.getElem?_eq_getElem (by have := unhide HL; omega)⟩
        have htc : cur[Jn]? = some t := by
          have := congrArg (fun x => x[0]?) (unhide HD)
          simp only [List.getElem?_drop, Nat.add_zero] at this
          rw [this, ht]
        obtain ⟨G', hG', a0, a1, a2, a3⟩ := (unhide HO).at htc
        obtain rfl : G = G' := by simpa using hG'
        have hzr : wr.cell? ⟨Z, 0, none⟩ = some (.string (str n)) := (unhide HG).cell hz (by simp; exact hZG)
        have hzu : (wr.alloc (.cells #[.int .i64 (t.1.k : Int), .string (str t.1.n), .int .i64 (t.1.p : Int), .slice t.2.1 t.1.b.length t.2.2] 98)).cell? ⟨Z, 0, none⟩ = some (.string (str n)) := by
          rw [((Below.refl wr.heap.size wr).alloc (Nat.le_refl _) _).cell (World.block_lt_of_cell? _ _ hzr)]; exact hzr
        have HTl := hide ht
        clear hG' ht htc hzr
        cases hb : (t.1.n == n) with
        | true =>
          have HBt := hide hb
          clear hb
          go_wp2_with fail
          refine (clos_any t n Z _ hzu).mono ?_
          rintro e w2 ⟨rfl, hb2⟩
          rw [unhide HBt]
          have HB2 : Hid (Below wr.heap.size wr w2) := ((Below.refl _ _).alloc (Nat.le_refl _) _).trans (hb2.mono (by simp))
          have HO2 : Hid (OwnA w2 (some ⟨G, 0, none⟩) pc cur) := (unhide HO).below (unhide HB2)
          have HG2 : Hid (w.grownBy w2 (some G)) := (unhide HG).trans ⟨(unhide HB2).os, (unhide HB2).tape, (unhide HB2).output, (unhide HB2).size, fun j hj _ => (unhide HB2).block j hj⟩
          have HF2 : Hid (cur.take I = (l.take (Jn + 1)).filter (keepN n)) := by
            show _ = _
            rw [take_snoc (unhide HTl), List.filter_append, unhide HF]
            simp [keepN, unhide HBt]
          have HD2 : Hid (cur.drop (Jn + 1) = l.drop (Jn + 1)) := by
            show _ = _
            rw [← List.drop_drop, ← List.drop_drop, unhide HD]
          go_wp2
          go_roundw
          case rel => exact ⟨I, Jn + 1, cur, by omega, by omega, by omega, rfl, by go_num, HC, HF2, HD2, HO2, HG2⟩
          case measure => simp [intOf]; omega
        | false =>
          have HBt := hide hb
          clear hb
          go_wp2_with fail
          refine (clos_any t n Z _ hzu).mono ?_
          rintro e w2 ⟨rfl, hb2⟩
          rw [unhide HBt]
          have HB2 : Hid (Below wr.heap.size wr w2) := ((Below.refl _ _).alloc (Nat.le_refl _) _).trans (hb2.mono (by simp))
          have hO2 : OwnA w2 (some ⟨G, 0, none⟩) pc cur := (unhide HO).below (unhide HB2)
          have hbx : Box w2 wr.heap.size (.int .i64 (t.1.k : Int)) (.string (str t.1.n)) (.int .i64 (t.1.p : Int)) (.slice t.2.1 t.1.b.length t.2.2) := by
            unfold Box
            rw [hb2.block wr.heap.size (by simp)]
            exact heap_alloc_new wr _
          obtain ⟨b0, b1, b2, b3⟩ := hbx.cells
          have hIc : I < cur.length := by have := unhide HC; omega
          obtain ⟨tI, htI⟩ : ∃ tI, cur[I]? = some tI := ⟨_, List.getElem?_eq_getElem hIc⟩
          obtain ⟨G'', hG'', q0, q1, q2, q3⟩ := hO2.at htI
          obtain rfl : G = G'' := by simpa using hG''
          have hfz : ∀ j, w2.frozen? ⟨G, j, none⟩ = false := by
            rcases hO2.cases with ⟨e, _⟩ | ⟨g, cur', e, hg, _⟩
            · cases e
            · obtain rfl : G = g := by simpa using e
              exact fun j => frozen_of_row w2 G j _ _ hg
          have f0 := hfz (I * 4)
          have f1 := hfz (I * 4 + 1)
          have f2 := hfz (I * 4 + 2)
          have f3 := hfz (I * 4 + 3)
          have HO3 := hide (hO2.setAt I hIc t)
          have hgG : ∀ (v : World) (j : Nat) (u : Value), v.grownBy (v.setCell ⟨G, j, none⟩ u) (some G) := fun v j u => grownBy_setCell v ⟨G, j, none⟩ u
          have HG3 := hide (((unhide HG).trans (show wr.grownBy w2 (some G) from ⟨(unhide HB2).os, (unhide HB2).tape, (unhide HB2).output, (unhide HB2).size, fun j hj _ => (unhide HB2).block j hj⟩)).trans ((((hgG w2 (I * 4) (.int .i64 (t.1.k : Int))).trans (hgG _ (I * 4 + 1) (.string (str t.1.n)))).trans (hgG _ (I * 4 + 2) (.int .i64 (t.1.p : Int)))).trans (hgG _ (I * 4 + 3) (.slice t.2.1 t.1.b.length t.2.2))))
          have HC3 : Hid ((cur.set I t).length = L) := by show _ = _; rw [List.length_set]; exact unhide HC
          have HF3 : Hid ((cur.set I t).take (I + 1) = (l.take (Jn + 1)).filter (keepN n)) := by
            show _ = _
            rw [take_snoc (x := t) (by simp [hIc]), List.take_set_of_le (Nat.le_refl _), take_snoc (unhide HTl), List.filter_append, unhide HF]
            simp [keepN, unhide HBt]
          have HD3 : Hid ((cur.set I t).drop (Jn + 1) = l.drop (Jn + 1)) := by
            show _ = _
            rw [List.drop_set_of_lt (by omega), ← List.drop_drop, ← List.drop_drop, unhide HD]
          clear hO2 hbx htI hG'' hfz hgG hb2
          go_wp2
          go_roundw
          case rel => exact ⟨I + 1, Jn + 1, cur.set I t, by omega, by omega, by omega, by go_num, by go_num, HC3, HF3, HD3, HO3, HG3⟩
          case measure => simp [intOf]; omega
      · obtain rfl : Jn = L := by omega
        have hIc : I < cur.length := by have := unhide HC; omega
        obtain ⟨w3, hrun, ho3, hg3⟩ := run_clr (c := pc - I) (unhide HO) I hIc 0
        rw [unhide HC] at hrun
        have hsf := acts_from G Jn pc I wr (by omega) hlc
        have hst := acts_to G Jn pc I w3 (by omega)
        have HE : Hid (cur.take I = l.filter (keepN n)) := by
          show _ = _
          rw [unhide HF, List.take_of_length_le (by have := unhide HL; omega)]
        have HO3 := hide ho3
        have HG3 := hide ((unhide HG).trans hg3)
        have HI : Hid ((cur.take I).length = I) := by show _ = _; simp; omega
        clear ho3 hg3
        go_wp2_with (at_builtin; refine wp_clr_run _ rfl _ _ rfl _ rfl _ hrun ?_)
        go_ret
        exact ⟨cur.take I, by rw [unhide HI]; rfl, HE, unhide HO3, unhide HG3⟩
theorem delf_none (n : Nm) (Z : Nat) (w : World) (hz : w.cell? ⟨Z, 0, none⟩ = some (.string (str n))) :
    Calls Tryz.prog 120 #[.slice none 0 0, .func (.func 121) #[] #[.pointer (some ⟨Z, 0, none⟩)]] w fun e w' => e = .returned (.slice none 0 0) ∧ Below w.heap.size w w' := by
  go_enter Tryz.func120, Tryz.ntmps120
  go_wp2_with fail
  refine (idxf_any none 0 [] 0 n Z w rfl (by omega) (OwnA.nil _) hz).mono ?_
  rintro e w1 ⟨hb1, ⟨rfl, HA⟩ | ⟨k, hkL, rfl, HA, HT⟩⟩
  · go_wp2
    go_ret
    exact ⟨rfl, hb1⟩
  · omega
/-- DeleteFunc, whatever the row. -/
theorem delf_any (P : Option Addr) (pc : Nat) (l : List At) (L : Nat) (n : Nm) (Z : Nat) (w : World) (HL : Hid (L = l.length)) (hl : L ≤ 1000000) (ho : OwnA w P pc l) (hz : w.cell? ⟨Z, 0, none⟩ = some (.string (str n))) (hZG : blk P ≠ some Z) :
    Calls Tryz.prog 120 #[.slice P L pc, .func (.func 121) #[] #[.pointer (some ⟨Z, 0, none⟩)]] w fun e w' => ∃ lo, e = .returned (.slice P lo.length pc) ∧ Hid (lo = l.filter (keepN n)) ∧ Hid (OwnA w' P pc lo) ∧ Hid (w.grownBy w' (blk P)) := by
  rcases ho.cases with ⟨rfl, rfl, rfl⟩ | ⟨G, cur, rfl, _⟩
  · obtain rfl : L = 0 := unhide HL
    refine (delf_none n Z w hz).mono ?_
    rintro e w' ⟨rfl, hb⟩
    exact ⟨[], rfl, rfl, OwnA.nil _, ⟨hb.os, hb.tape, hb.output, hb.size, fun j hj _ => hb.block j hj⟩⟩
  · refine (delf_some G pc l L n Z w HL hl ho hz (fun e => hZG (by rw [e]; rfl))).mono ?_
    rintro e w' ⟨lo, rfl, h1, h2, h3⟩
    exact ⟨lo, rfl, h1, h2, h3⟩
#print axioms delf_any
end Go.Proofs.YtmcgghjeocnpnaaGreatDoor
end
section
set_option linter.unusedVariables false
namespace Go.Proofs.YtmcgghjeocnpnaaGreatDoor
open Go.RowKit Go.Maps

def isN (n : Nm) (a : Ac) : Bool := a.n == n
def Md.synced (M : Md) (n : Nm) : Md := { (M.pend.filter (isN n)).foldl Md.lasts M with pend := M.pend.filter (fun a => !(isN n a)) }
def Md.sync (M : Md) (n : Nm) : Md := if M.thereE n = 0 then (M.synced n).settle n else M
def syncTo (M : Md) (n : Nm) (k : Nat) : Md := ((M.pend.take k).filter (isN n)).foldl Md.lasts M

theorem DS.flt {w w1 : World} {g : Nat → Tg} {i : Nat} {J : DJ} {M : Md} (h : DS w g i J M) {l lo : List At} (hl1 : l.map (·.1) = M.pend) (hl3 : ∀ t ∈ l, Bs w t.2.1 t.2.2 t.1.b ∧ ∀ k, blk t.2.1 = some k → k < w.heap.size ∧ g k = .a i) (n : Nm) (hlo : lo = l.filter (keepN n)) (ho : OwnA w1 J.P J.pc lo) (hg : w.grownBy w1 (blk J.P)) :
    (w1.cell? ⟨J.D, 3, none⟩ = some (.slice J.P M.pend.length J.pc) ∧ w1.frozen? ⟨J.D, 3, none⟩ = false) ∧ DS (w1.setCell ⟨J.D, 3, none⟩ (.slice J.P lo.length J.pc)) g i J { M with pend := M.pend.filter (fun a => !(isN n a)) } ∧ St w (w1.setCell ⟨J.D, 3, none⟩ (.slice J.P lo.length J.pc)) g g (fun t => t = .d i ∨ t = .p i) := by
  have x0 : St w w1 g g (fun t => t = .p i) := St.ofG hg (fun k hk => h.gP k hk)
  have hD1 : w1.heap[J.D]? = some (.cells (dcells J M) 79 (0, 0)) := x0.heap h.dsk (by rw [h.gD]; intro e; cases e)
  have x1 : St w1 (w1.setCell ⟨J.D, 3, none⟩ (.slice J.P lo.length J.pc)) g g (fun t => t = .d i) := St.ofG (grownBy_setCell w1 ⟨J.D, 3, none⟩ _) (fun k hk => by rw [← Option.some.inj hk]; exact h.gD)
  have x : St w (w1.setCell ⟨J.D, 3, none⟩ (.slice J.P lo.length J.pc)) g g (fun t => t = .d i ∨ t = .p i) := (x0.mono (fun t e => .inr e)).trans (x1.mono (fun t e => .inl e))
  have hmap : lo.map (·.1) = M.pend.filter (fun a => !(isN n a)) := by
    rw [hlo, ← hl1, List.filter_map]
    rfl
  refine ⟨⟨by rw [cell_of_row w1 J.D 3 _ _ _ hD1]; rfl, frozen_of_row w1 J.D 3 _ _ hD1⟩, ⟨?_, h.gD, h.gL, h.gS, h.gK, h.gP, h.fl.st x ?_ ?_, h.fs.st x ?_ ?_, h.pk.st x ?_, lo, hmap, ho.st x1 (fun k hk => by rw [h.gP k hk]; intro e; cases e), fun t ht => ?_⟩, x⟩
  · have e1 : lo.length = (M.pend.filter (fun a => !(isN n a))).length := by rw [← hmap]; simp
    simp only [World.setCell, Array.getElem?_modify]
    rw [if_pos trivial, hD1, e1]
    rfl
  · rw [h.gL]; rintro (e | e) <;> cases e
  · rintro m (e | e) <;> cases e
  · rw [h.gS]; rintro (e | e) <;> cases e
  · rintro m (e | e) <;> cases e
  · rw [h.gK]; rintro (e | e) <;> cases e
  · have key := hl3 t (by rw [hlo] at ht; exact (List.mem_filter.1 ht).1)
    refine ⟨key.1.st x (fun k hk => by rw [(key.2 k hk).2]; rintro (e | e) <;> cases e), fun k hk => ?_⟩
    have := key.2 k hk
    exact ⟨Nat.lt_of_lt_of_le this.1 x.size, this.2⟩
theorem MOk.sync {J J' : DJ} {M : Md} {N : Nat} {n : Nm} (h : MOk J M N) (hJ : J'.kc = J.kc + 1) : MOk J' ((M.synced n).settle n) (N + 1) := by
  have g := h.mono (Nat.le_succ N)
  have k := lasts_keep (M.pend.filter (isN n)) M
  have kN := lasts_lastN (M.pend.filter (isN n)) M
  have hlen : (M.pend.filter (isN n)).length + (M.pend.filter (fun a => !(isN n a))).length = M.pend.length := by
    induction M.pend with
    | nil => rfl
    | cons a r ih => simp only [List.filter_cons]; cases isN n a <;> simp <;> omega
  refine ⟨?_, ?_, ?_, ?_, ?_, ?_, ?_, ?_⟩
  · show 0 ≤ (List.foldl Md.lasts M _ : Md).room; rw [k.2.2.2.1]; exact h.r0
  · show (List.foldl Md.lasts M _ : Md).room ≤ _; rw [k.2.2.2.1]; exact h.r1
  · show (List.foldl Md.lasts M _ : Md).lastN + (M.pend.filter (fun a => !(isN n a))).length ≤ N + 1; have := h.ln; omega
  · show (List.foldl Md.lasts M _ : Md).seenN ≤ _; rw [k.2.2.1]; exact g.sn
  · show J'.kc + (M.pend.filter (fun a => !(isN n a))).length ≤ _; have := h.kc; omega
  · intro m; show (fget (List.foldl Md.lasts M _ : Md).seen m).length ≤ _; rw [k.2.1]; exact g.sl m
  · intro m; show (fget (List.foldl Md.lasts M _ : Md).last m).length ≤ _; rw [lasts_last]; exact fold_len _ _ g.ll (fun b hb => (g.pe b (List.mem_filter.1 hb).1).2.2) m
  · intro a ha; exact g.pe a (List.mem_filter.1 ha).1

set_option maxRecDepth 20000 in
set_option maxHeartbeats 4000000 in
theorem sync_any (g : Nat → Tg) (i : Nat) (J : DJ) (M : Md) (N : Nat) (n : Nm) (w : World) (h : DS w g i J M) (ok : MOk J M N) (hN : N ≤ 1400) (hn : n.length ≤ maxLen) :
    Calls Tryz.prog 87 #[.pointer (some ⟨J.D, 0, none⟩), .string (str n)] w fun e w' => e = .returned (.int .i64 (M.thereE n)) ∧ RS w w' g i J (M.sync n) (N + 1) := by
  have hpl : M.pend.length ≤ 1400 := by have := ok.ln; omega
  have hkc : J.kc ≤ 1000000 := by have := ok.kc; omega
  obtain ⟨w0, hw0⟩ : ∃ w0, w0 = w.alloc (.cells #[.string (str n)] 9) := ⟨_, rfl⟩
  obtain ⟨Z, hZ⟩ : ∃ Z, Z = w.heap.size := ⟨_, rfl⟩
  have hB0 : Below w.heap.size w w0 := by rw [hw0]; exact (Below.refl _ _).alloc (Nat.le_refl _) _
  have hz0 : w0.cell? ⟨Z, 0, none⟩ = some (.string (str n)) := by
    rw [hw0, hZ, cell_of_row _ w.heap.size 0 _ _ _ (heap_alloc_new w _)]; rfl
  have hst0 : ∀ S, St w w0 g (fun k => if k < w.heap.size then g k else .o) S := fun S => ⟨hB0.os, hB0.tape, hB0.output, hB0.size, fun k hk _ => hB0.block k hk, fun k hk => by simp [hk]⟩
  have hd0 := h.st (hst0 (fun _ => False)) (fun _ _ e => e)
  obtain ⟨g0, hg0⟩ : ∃ g0 : Nat → Tg, g0 = (fun k => if k < w.heap.size then g k else .o) := ⟨_, rfl⟩
  rw [← hg0] at hd0
  have hgZ : g0 Z = .o := by rw [hg0, hZ]; simp
  have HST0 : Hid (St w w0 g g0 (fun t => t.of i)) := by rw [hg0]; exact hst0 _
  have HW := hide hw0
  have HZ := hide hZ
  have HB0 := hide hB0
  have HSM : Hid (∀ w' : World, Below w.heap.size w w' → RS w w' g i J M (N + 1)) := fun w' hb => RS.same h ok hb
  clear hst0 hg0 hw0 hZ hB0 h
  rcases thereE_cases M n with ⟨ht, hnb, hs⟩ | ht | ht
  · have HT := hide ht
    have HV : Hid (M.sync n = (M.synced n).settle n) := by show _ = _; simp [Md.sync, ht]
    have hn1 : n.length ≤ 1000 := by have := isName_le hnb; omega
    clear ht hnb hs
    go_enter Tryz.func87, Tryz.ntmps87
    go_wp2_with fail
    rw [← unhide HW, ← unhide HZ]
    refine (there_any g0 i J M n w0 hd0 hn).mono ?_
    rintro e w0' ⟨rfl, rfl⟩
    rw [unhide HT]
    have c3 := hd0.c3
    have HD0 := hide hd0
    have HZ0 := hide hz0
    go_wp2
    clear hd0 c3 hz0
    go_loopw [19] (fun v wr => ∃ (k : Nat) (gk : Nat → Tg), k ≤ M.pend.length ∧ v = .int .i64 (k : Int) ∧ Hid (DS wr gk i J (syncTo M n k)) ∧ Hid (St w0' wr g0 gk (fun t => t = .l i ∨ ∃ n, t = .lr i n))) (fun v _ => M.pend.length - (intOf v).toNat)
    case atStart => exact ⟨0, g0, Nat.zero_le _, rfl, unhide HD0, St.refl _ _ _⟩
    case round =>
      obtain ⟨k, gk, hk, rfl, HD, HS⟩ := hrel
      have hzr : wr.cell? ⟨Z, 0, none⟩ = some (.string (str n)) := (unhide HS).cell (unhide HZ0) (by rw [hgZ]; rintro (e | ⟨n, e⟩) <;> cases e)
      by_cases hlt : k < M.pend.length
      · have hlt2 : (k : Int) < (M.pend.length : Int) := by omega
        obtain ⟨l, hl1, hlo, hl3⟩ := (unhide HD).pd
        have hpe : (syncTo M n k).pend = M.pend := (lasts_keep _ _).1
        obtain ⟨t, ht⟩ : ∃ t, l[k]? = some t := by
          have : k < l.length := by have := congrArg List.length hl1; rw [hpe] at this; simp at this; omega
          exact ⟨_, List.getElem?_eq_getElem this⟩
        obtain ⟨G, hG, a0, a1, a2, a3⟩ := hlo.at ht
        have HTk : Hid (M.pend[k]? = some t.1) := by
          show _ = _
          rw [← hpe, ← hl1, List.getElem?_map, ht]; rfl
        have HT3 := hide (hl3 t (List.mem_of_getElem? ht))
        have c3' : Hid (J.P = some ⟨G, 0, none⟩) := hG
        have hzu : (wr.alloc (.cells #[.int .i64 (t.1.k : Int), .string (str t.1.n), .int .i64 (t.1.p : Int), .slice t.2.1 t.1.b.length t.2.2] 98)).cell? ⟨Z, 0, none⟩ = some (.string (str n)) := by
          rw [((Below.refl wr.heap.size wr).alloc (Nat.le_refl _) _).cell (World.block_lt_of_cell? _ _ hzr)]; exact hzr
        have t1 := toList_str t.1.n
        have t2 := toList_str n
        clear hl1 hlo hl3 hpe ht
        cases hb : (t.1.n == n) with
        | false =>
          have HBt := hide hb
          have HS2 : Hid (St w0' (wr.alloc (.cells #[.int .i64 (t.1.k : Int), .string (str t.1.n), .int .i64 (t.1.p : Int), .slice t.2.1 t.1.b.length t.2.2] 98)) g0 gk (fun t => t = .l i ∨ ∃ n, t = .lr i n)) := (unhide HS).trans (St.ofBelow gk _ ((Below.refl _ _).alloc (Nat.le_refl _) _))
          have HD2 : Hid (DS (wr.alloc (.cells #[.int .i64 (t.1.k : Int), .string (str t.1.n), .int .i64 (t.1.p : Int), .slice t.2.1 t.1.b.length t.2.2] 98)) gk i J (syncTo M n (k + 1))) := by
            have e : syncTo M n (k + 1) = syncTo M n k := by
              unfold syncTo
              rw [take_snoc (unhide HTk), List.filter_append]
              simp [isN, unhide HBt]
            rw [e]
            exact (unhide HD).below ((Below.refl _ _).alloc (Nat.le_refl _) _)
          go_wp2
          exact ⟨⟨k + 1, gk, by omega, by go_num, HD2, HS2⟩, by simp [intOf]; omega⟩
        | true =>
          have HBt := hide hb
          obtain ⟨u, hu⟩ : ∃ u, u = wr.alloc (.cells #[.int .i64 (t.1.k : Int), .string (str t.1.n), .int .i64 (t.1.p : Int), .slice t.2.1 t.1.b.length t.2.2] 98) := ⟨_, rfl⟩
          have hBu : Below wr.heap.size wr u.drew := by rw [hu]; exact ((Below.refl _ _).alloc (Nat.le_refl _) _).drew
          have hbx : Box u.drew wr.heap.size (.int .i64 (t.1.k : Int)) (.string (str t.1.n)) (.int .i64 (t.1.p : Int)) (.slice t.2.1 t.1.b.length t.2.2) := by unfold Box; rw [hu]; exact heap_alloc_new wr _
          obtain ⟨g2, p1, st1⟩ := box_laidK (unhide HD) t (unhide HT3) u.drew hBu hbx (fun t => t = .l i ∨ ∃ n, t = .lr i n)
          have P1 := hide p1
          have ST1 := hide ((unhide HS).trans st1)
          have hS1 := And.intro p1.ds.c1 p1.box.cells
          have hby := p1.by'
          have hfl := p1.ds.fl
          have htL := p1.ds.trL
          have hxt : ∀ j, blk t.2.1 = some j → g2 j ≠ .lr i t.1.n := fun j hj e => by have := (p1.ty j hj).2; rw [e] at this; cases this
          obtain ⟨hk2, hn24, hpb⟩ := ok.pe t.1 (List.mem_of_getElem? (unhide HTk))
          have hl' : (fget (syncTo M n k).last t.1.n).length ≤ 1000000000 := by
            unfold syncTo
            rw [lasts_last]
            have := fold_len (B := N * 65600) ((M.pend.take k).filter (isN n)) M.last ok.ll (fun b hb => (ok.pe b (List.mem_of_mem_take (List.mem_filter.1 hb).1)).2.2) t.1.n
            omega
          have hc1 : (syncTo M n k).lastN ≤ 1000000000 := by
            have h1 := lasts_lastN ((M.pend.take k).filter (isN n)) M
            have h2 := ok.ln
            have h3 : ((M.pend.take k).filter (isN n)).length ≤ (M.pend.take k).length := List.length_filter_le _ _
            unfold syncTo
            simp at h3
            omega
          have hnn : t.1.n.length ≤ 1000 := by omega
          have hp1 : t.1.p ≤ 1000000000 := by omega
          have hb1 : t.1.b.length ≤ 1000000000 := by omega
          have HU := hide hu
          clear hu hBu hbx p1 st1 hpb
          go_wp2_with fail
          rw [← unhide HU]
          clear hG a0 a1 a2 a3 HU hzu t1 t2 hb
          go_region_held3 (fun w' => w'.cell? ⟨J.D, 1, none⟩ = some (.map (some J.L)) ∧ w'.cell? ⟨wr.heap.size, 0, none⟩ = some (.int .i64 (t.1.k : Int)) ∧ w'.cell? ⟨wr.heap.size, 1, none⟩ = some (.string (str t.1.n)) ∧ w'.cell? ⟨wr.heap.size, 2, none⟩ = some (.int .i64 (t.1.p : Int)) ∧ w'.cell? ⟨wr.heap.size, 3, none⟩ = some (.slice t.2.1 t.1.b.length t.2.2)) (first | exact hS1 | exact And.intro p2.ds.c1 p2.box.cells) ((go_at_call 43; refine (do_any g2 (.lr i) J.L (syncTo M n k).last (syncTo M n k).lastN t.1 (t.1.k : Int) (t.1.p : Int) t.2.1 t.2.2 _ hfl htL rfl hk2 hnn rfl hby hxt hl' hp1 hb1 hc1).mono ?_; rintro e w2 ⟨rfl, g3, HF, HT2⟩; obtain ⟨p2, st2⟩ := perf2K (unhide P1) HF HT2))
          have HF3 : Hid (DS w2 g3 i J (syncTo M n (k + 1))) := by
            have e : syncTo M n (k + 1) = (syncTo M n k).lasts t.1 := by
              unfold syncTo
              rw [take_snoc (unhide HTk), List.filter_append, List.foldl_append]
              simp [isN, unhide HBt]
            rw [e]
            exact p2.ds
          have ST2 := hide ((unhide ST1).trans st2)
          clear p2 st2 hS1 hby hfl htL hxt P1 ST1 HF HT2
          go_wp2
          go_roundw
          case rel => exact ⟨k + 1, g3, by omega, by go_num, HF3, ST2⟩
          case measure => simp [intOf]; omega
      · obtain rfl : k = M.pend.length := by omega
        obtain ⟨M1, hM1⟩ : ∃ M1, M1 = (M.pend.filter (isN n)).foldl Md.lasts M := ⟨_, rfl⟩
        have hds : DS wr gk i J M1 := by
          have e : syncTo M n M.pend.length = M1 := by rw [hM1]; unfold syncTo; rw [List.take_length]
          rw [← e]; exact unhide HD
        have hM1p : M1.pend = M.pend := by rw [hM1]; exact (lasts_keep _ _).1
        obtain ⟨l, hl1, hlo, hl3⟩ := hds.pd
        have HLn : Hid (M.pend.length = l.length) := by show _ = _; rw [← hM1p, ← hl1]; simp
        have hgkZ : gk Z = .o := by rw [(unhide HS).ag Z (World.block_lt_of_cell? _ _ (unhide HZ0))]; exact hgZ
        have hZP : blk J.P ≠ some Z := fun e => by have := hds.gP Z e; rw [hgkZ] at this; cases this
        have q3 := hds.c3
        rw [hM1p] at q3
        have HDS := hide hds
        have HL1 := hide hl1
        have HL3 := hide hl3
        have HM1 := hide hM1
        have HMP := hide hM1p
        have hll : M.pend.length ≤ 1000000 := by omega
        clear hds hl1 hl3 hM1 hM1p HD
        go_wp2_with fail
        refine (delf_any J.P J.pc l M.pend.length n Z wr HLn hll hlo hzr hZP).mono ?_
        rintro e w2 ⟨lo, rfl, HLo, HO2, HG2⟩
        obtain ⟨⟨r3, f3⟩, d3, x3⟩ := (unhide HDS).flt (unhide HL1) (unhide HL3) n (unhide HLo) (unhide HO2) (unhide HG2)
        obtain ⟨u3, hu3⟩ : ∃ u3, u3 = w2.setCell ⟨J.D, 3, none⟩ (.slice J.P lo.length J.pc) := ⟨_, rfl⟩
        rw [← hu3] at d3 x3
        have hzs : u3.cell? ⟨Z, 0, none⟩ = some (.string (str n)) := x3.cell hzr (by rw [hgkZ]; rintro (e | e) <;> cases e)
        have hzs2 : (w2.setCell ⟨J.D, 3, none⟩ (.slice J.P lo.length J.pc)).cell? ⟨Z, 0, none⟩ = some (.string (str n)) := by rw [← hu3]; exact hzs
        have HU3 := hide hu3
        have HD3 := hide d3
        have HX3 := hide x3
        have hMseen : M1.seen = M.seen := by rw [unhide HM1]; exact (lasts_keep _ _).2.1
        have hsl : (fget M1.seen n).length ≤ 1000000000 := by rw [hMseen]; have := ok.sl n; omega
        clear hu3 d3 x3 q3 hlo hMseen
        go_wp2_with fail
        rw [← unhide HU3]
        refine (settle_any gk i J { M1 with pend := M1.pend.filter (fun a => !(isN n a)) } n u3 (unhide HD3) hn1 hkc hsl).mono ?_
        rintro e w4 ⟨rfl, HD4, HS4⟩
        have HX4 : Hid (St w w4 g gk (fun t => t.of i)) := (((unhide HST0).trans ((unhide HS).mono (fun t e => by rcases e with e | ⟨n, e⟩ <;> (rw [e]; rfl)))).trans ((unhide HX3).mono (fun t e => by rcases e with e | e <;> (rw [e]; rfl)))).trans ((unhide HS4).mono (fun t e => by rcases e with e | e <;> (rw [e]; rfl)))
        go_wp2
        go_ret
        refine ⟨by rw [unhide HT]; rfl, ?_⟩
        rw [unhide HV]
        refine ⟨gk, { J with kc := J.kc + 1 }, ?_, ok.sync rfl, unhide HX4, rfl⟩
        have := unhide HD4
        rw [unhide HMP, unhide HM1] at this
        exact this
  · have HV : Hid (M.sync n = M) := by show _ = _; simp [Md.sync, ht]
    have HT := hide ht
    clear ht
    go_enter Tryz.func87, Tryz.ntmps87
    go_wp2_with fail
    rw [← unhide HW, ← unhide HZ]
    refine (there_any g0 i J M n w0 hd0 hn).mono ?_
    rintro e w0' ⟨rfl, rfl⟩
    rw [unhide HT]
    go_wp2
    go_ret
    exact ⟨by rw [unhide HT]; rfl, by rw [unhide HV]; exact unhide HSM _ (unhide HB0)⟩
  · have HV : Hid (M.sync n = M) := by show _ = _; simp [Md.sync, ht]
    have HT := hide ht
    clear ht
    go_enter Tryz.func87, Tryz.ntmps87
    go_wp2_with fail
    rw [← unhide HW, ← unhide HZ]
    refine (there_any g0 i J M n w0 hd0 hn).mono ?_
    rintro e w0' ⟨rfl, rfl⟩
    rw [unhide HT]
    go_wp2
    go_ret
    exact ⟨by rw [unhide HT]; rfl, by rw [unhide HV]; exact unhide HSM _ (unhide HB0)⟩
#print axioms sync_any
end Go.Proofs.YtmcgghjeocnpnaaGreatDoor
end
section
set_option linter.unusedVariables false
namespace Go.Proofs.YtmcgghjeocnpnaaGreatDoor
open Go.RowKit Go.Maps

def Tg.is : Tg → Nat → Bool
  | .o, _ => false
  | .d j, i => j == i
  | .l j, i => j == i
  | .s j, i => j == i
  | .k j, i => j == i
  | .p j, i => j == i
  | .a j, i => j == i
  | .lr j _, i => j == i
  | .sr j _, i => j == i
theorem Tg.is_of (t : Tg) (i : Nat) : t.is i = true ↔ t.of i := by cases t <;> simp [Tg.is, Tg.of]
/-- Nothing is disk j's. -/
def retag (j : Nat) (g : Nat → Tg) : Nat → Tg := fun b => if (g b).is j then .o else g b
theorem retag_of (j : Nat) (g : Nat → Tg) (b : Nat) : ¬ (retag j g b).of j := by
  unfold retag
  cases h : (g b).is j
  · intro e; rw [if_neg (by simp)] at e; rw [(Tg.is_of _ _).2 e] at h; cases h
  · simp [Tg.of]
theorem retag_same {j : Nat} {g : Nat → Tg} {b : Nat} {t : Tg} {i : Nat} (h : g b = t) (ht : t.of i) (hij : i ≠ j) : retag j g b = t := by
  unfold retag
  rw [if_neg, h]
  rw [h, Tg.is_of]
  intro e
  cases t <;> simp [Tg.of] at ht e <;> omega
theorem FM.tags {w : World} {g g' : Nat → Tg} {tr : Nm → Tg} {bm cnt : Nat} {f : Files} (h : FM w g tr bm f cnt) (e : ∀ b n, g b = tr n → g' b = tr n) : FM w g' tr bm f cnt := by
  obtain ⟨D, h1, h2, h3⟩ := h
  refine ⟨D, h1, h2, fun n => ?_⟩
  rcases h3 n with h' | ⟨l, x, c, k1, k2, k3, k4, k5⟩
  · exact .inl h'
  · exact .inr ⟨l, x, c, k1, k2, k3, k4, fun b hb => e b n (k5 b hb)⟩
theorem DS.retag {w : World} {g : Nat → Tg} {i j : Nat} {J : DJ} {M : Md} (h : DS w g i J M) (hij : i ≠ j) : DS w (retag j g) i J M := by
  obtain ⟨l, h1, h2, h3⟩ := h.pd
  exact ⟨h.dsk, retag_same h.gD rfl hij, retag_same h.gL rfl hij, retag_same h.gS rfl hij, retag_same h.gK rfl hij, fun k hk => retag_same (h.gP k hk) rfl hij, h.fl.tags (fun b n e => retag_same e rfl hij), h.fs.tags (fun b n e => retag_same e rfl hij), h.pk, l, h1, h2, fun t ht => ⟨(h3 t ht).1, fun k hk => ⟨((h3 t ht).2 k hk).1, retag_same ((h3 t ht).2 k hk).2 rfl hij⟩⟩⟩

/-- The disk number i lies in block D. -/
def DK (w : World) (g : Nat → Tg) (i D : Nat) (M : Md) (N : Nat) : Prop := ∃ J, DS w g i J M ∧ MOk J M N ∧ J.D = D
theorem DK.st {w w' : World} {g g' : Nat → Tg} {i k D : Nat} {M : Md} {N : Nat} (h : DK w g i D M N) (x : St w w' g g' (fun t => t.of k)) (hne : i ≠ k) : DK w' g' i D M N := by
  obtain ⟨J, h1, h2, h3⟩ := h
  refine ⟨J, h1.st x (fun t ht e => ?_), h2, h3⟩
  cases t <;> simp [Tg.of] at ht e <;> omega
theorem DK.below {w w' : World} {g : Nat → Tg} {i D : Nat} {M : Md} {N : Nat} (h : DK w g i D M N) (x : Below w.heap.size w w') : DK w' g i D M N := by
  obtain ⟨J, h1, h2, h3⟩ := h
  exact ⟨J, h1.below x, h2, h3⟩
theorem DK.lt {w : World} {g : Nat → Tg} {i D : Nat} {M : Md} {N : Nat} (h : DK w g i D M N) : D < w.heap.size := by
  obtain ⟨J, h1, h2, rfl⟩ := h
  exact h1.ltD
/-- What a call on disk i leaves. -/
def RK (w w' : World) (g : Nat → Tg) (i D : Nat) (M' : Md) (N : Nat) : Prop := ∃ g', DK w' g' i D M' N ∧ St w w' g g' (fun t => t.of i)
theorem RS.rk {w w' : World} {g : Nat → Tg} {i : Nat} {J : DJ} {M' : Md} {N D : Nat} (h : RS w w' g i J M' N) (e : J.D = D) : RK w w' g i D M' N := by
  obtain ⟨g', J', h1, h2, h3, h4⟩ := h
  exact ⟨g', ⟨J', h1, h2, h4.trans e⟩, h3⟩
/-- What stands ahead of all. -/
structure LW (w0 w : World) (g : Nat → Tg) : Prop where
  below : Below w0.heap.size w0 w
  bas : ∀ k, k < w0.heap.size → g k = .o
theorem LW.st {w0 w w' : World} {g g' : Nat → Tg} {i : Nat} (h : LW w0 w g) (x : St w w' g g' (fun t => t.of i)) : LW w0 w' g' :=
  ⟨x.below h.below h.below.size (fun k hk e => by rw [h.bas k hk] at e; exact e), fun k hk => (x.ag k (Nat.lt_of_lt_of_le hk h.below.size)).trans (h.bas k hk)⟩
theorem LW.bel {w0 w w' : World} {g : Nat → Tg} (h : LW w0 w g) (x : Below w.heap.size w w') : LW w0 w' g := ⟨h.below.trans (x.mono h.below.size), h.bas⟩
theorem LW.start (w : World) : LW w w (fun _ => .o) := ⟨Below.refl _ _, fun _ _ => rfl⟩

theorem write_k (g : Nat → Tg) (i D : Nat) (M : Md) (N : Nat) (n : Nm) (x : Option Addr) (c : Nat) (b : List UInt8) (w : World) (h : DK w g i D M N) (hN : N ≤ 1400) (hn : n.length ≤ maxLen) (hb : Bs w x c b) (hbl : b.length ≤ 65600) :
    Calls Tryz.prog 96 #[.pointer (some ⟨D, 0, none⟩), .string (str n), .slice x b.length c] w fun e w' => e = .returned (.int .i64 (M.writeE n b.length)) ∧ RK w w' g i D (M.write n b) (N + 1) := by
  obtain ⟨J, h1, h2, rfl⟩ := h
  exact (write_any g i J M N n x c b w h1 h2 hN hn hb hbl).mono (fun e w' h => ⟨h.1, h.2.rk rfl⟩)
theorem sync_k (g : Nat → Tg) (i D : Nat) (M : Md) (N : Nat) (n : Nm) (w : World) (h : DK w g i D M N) (hN : N ≤ 1400) (hn : n.length ≤ maxLen) :
    Calls Tryz.prog 87 #[.pointer (some ⟨D, 0, none⟩), .string (str n)] w fun e w' => e = .returned (.int .i64 (M.thereE n)) ∧ RK w w' g i D (M.sync n) (N + 1) := by
  obtain ⟨J, h1, h2, rfl⟩ := h
  exact (sync_any g i J M N n w h1 h2 hN hn).mono (fun e w' h => ⟨h.1, h.2.rk rfl⟩)
theorem crash_k (g : Nat → Tg) (i D : Nat) (M : Md) (N : Nat) (kp : Option Addr) (kl : List Bool) (kc KL : Nat) (z : Int) (w : World) (h : DK w g i D M N) (hN : N ≤ 1400) (HKL : Hid (KL = kl.length)) (hk : BRow w kp kl) (hkm : KL ≤ maxLen) :
    Calls Tryz.prog 17 #[.pointer (some ⟨D, 0, none⟩), .slice kp KL kc, .int .i64 z] w fun e w' => e = .returned (.int .i64 0) ∧ RK w w' g i D (M.crash kl z) (N + 1) := by
  obtain ⟨J, h1, h2, rfl⟩ := h
  exact (crash_any g i J M N kp kl kc KL z w h1 h2 hN HKL hk hkm).mono (fun e w' h => ⟨h.1, h.2.rk rfl⟩)
theorem read_k (g : Nat → Tg) (i D : Nat) (M : Md) (N : Nat) (n : Nm) (w : World) (h : DK w g i D M N) (hN : N ≤ 1500) (hn : n.length ≤ maxLen) :
    Calls Tryz.prog 102 #[.pointer (some ⟨D, 0, none⟩), .string (str n)] w fun e w' => ∃ y cy, e = .returned (.tuple #[.slice y (M.readB n).length cy, .int .i64 (M.thereE n)]) ∧ OwnB w' w.heap.size y cy (M.readB n) ∧ Below w.heap.size w w' := by
  obtain ⟨J, h1, h2, rfl⟩ := h
  exact read_any g i J M N n w h1 h2 hN hn
/-- New. -/
theorem new_k (w0 : World) (g : Nat → Tg) (i : Nat) (z : Int) (w : World) (h0 : 0 ≤ z) (h1 : z ≤ 16777216) (hL : LW w0 w g) :
    Calls Tryz.prog 26 #[.int .i64 z] w fun e w' => ∃ D g', e = .returned (.tuple #[.pointer (some ⟨D, 0, none⟩), .int .i64 0]) ∧ DK w' g' i D (Md.new z) 0 ∧ LW w0 w' g' ∧ Below w.heap.size w w' ∧ ∀ b, b < w.heap.size → g' b = g b := by
  refine (new_any z w h0 h1).mono ?_
  rintro e w' ⟨rfl, rfl⟩
  obtain ⟨B, hB⟩ : ∃ B, B = w.heap.size := ⟨_, rfl⟩
  have b1 : Below w.heap.size w (w.alloc (.map #[] 0)) := (Below.refl _ _).alloc (Nat.le_refl _) _
  have b2 : Below (w.alloc (.map #[] 0)).heap.size (w.alloc (.map #[] 0)) ((w.alloc (.map #[] 0)).alloc (.map #[] 0)) := (Below.refl _ _).alloc (Nat.le_refl _) _
  have b3 : Below ((w.alloc (.map #[] 0)).alloc (.map #[] 0)).heap.size ((w.alloc (.map #[] 0)).alloc (.map #[] 0)) (((w.alloc (.map #[] 0)).alloc (.map #[] 0)).alloc (.map #[] 0)) := (Below.refl _ _).alloc (Nat.le_refl _) _
  have b4 : Below (((w.alloc (.map #[] 0)).alloc (.map #[] 0)).alloc (.map #[] 0)).heap.size (((w.alloc (.map #[] 0)).alloc (.map #[] 0)).alloc (.map #[] 0)) ((((w.alloc (.map #[] 0)).alloc (.map #[] 0)).alloc (.map #[] 0)).alloc (.cells #[.int .i64 z, .map (some w.heap.size), .map (some (w.heap.size + 1)), .slice none 0 0, .map (some (w.heap.size + 1 + 1)), .int .i64 0] 79)) := (Below.refl _ _).alloc (Nat.le_refl _) _
  obtain ⟨g', hg'⟩ : ∃ g' : Nat → Tg, g' = (fun b => if b < w.heap.size then g b else if b = w.heap.size then .l i else if b = w.heap.size + 1 then .s i else if b = w.heap.size + 1 + 1 then .k i else if b = w.heap.size + 1 + 1 + 1 then .d i else .o) := ⟨_, rfl⟩
  have hag : ∀ b, b < w.heap.size → g' b = g b := fun b hb => by rw [hg']; simp [hb]
  have hbb : Below w.heap.size w _ := b1.trans ((b2.trans ((b3.trans (b4.mono b3.size)).mono b2.size)).mono b1.size)
  refine ⟨w.heap.size + 1 + 1 + 1, g', rfl, ⟨{ D := w.heap.size + 1 + 1 + 1, L := w.heap.size, S := w.heap.size + 1, K := w.heap.size + 1 + 1, P := none, pc := 0, kc := 0 }, ⟨?_, ?_, ?_, ?_, ?_, (fun k hk => by cases hk), ?_, ?_, ?_, [], rfl, OwnA.nil _, (fun t ht => by simp at ht)⟩, ⟨h0, h1, Nat.le_refl _, Nat.le_refl _, Nat.le_refl _, fun n => Nat.zero_le _, fun n => Nat.zero_le _, fun a ha => by simp [Md.new] at ha⟩, rfl⟩, ⟨hL.below.trans (hbb.mono hL.below.size), fun k hk => (hag k (Nat.lt_of_lt_of_le hk hL.below.size)).trans (hL.bas k hk)⟩, hbb, hag⟩
  · have := heap_alloc_new (((w.alloc (.map #[] 0)).alloc (.map #[] 0)).alloc (.map #[] 0)) (.cells #[.int .i64 z, .map (some w.heap.size), .map (some (w.heap.size + 1)), .slice none 0 0, .map (some (w.heap.size + 1 + 1)), .int .i64 0] 79)
    simp only [World.size_alloc] at this
    exact this
  · rw [hg']; dsimp only; exact (if_neg (by omega)).trans ((if_neg (by omega)).trans ((if_neg (by omega)).trans ((if_neg (by omega)).trans (if_pos rfl))))
  · rw [hg']; dsimp only; exact (if_neg (by omega)).trans (if_pos rfl)
  · rw [hg']; dsimp only; exact (if_neg (by omega)).trans ((if_neg (by omega)).trans (if_pos rfl))
  · rw [hg']; dsimp only; exact (if_neg (by omega)).trans ((if_neg (by omega)).trans ((if_neg (by omega)).trans (if_pos rfl)))
  · exact (((FM.made w g' (.lr i)).st (St.ofBelow g' (fun _ => False) b2) (fun e => e) (fun _ e => e)).st (St.ofBelow g' (fun _ => False) b3) (fun e => e) (fun _ e => e)).st (St.ofBelow g' (fun _ => False) b4) (fun e => e) (fun _ e => e)
  · have := ((FM.made (w.alloc (.map #[] 0)) g' (.sr i)).st (St.ofBelow g' (fun _ => False) b3) (fun e => e) (fun _ e => e)).st (St.ofBelow g' (fun _ => False) b4) (fun e => e) (fun _ e => e)
    simp only [World.size_alloc] at this
    exact this
  · have := (PK.made ((w.alloc (.map #[] 0)).alloc (.map #[] 0))).st (St.ofBelow g' (fun _ => False) b4) (fun e => e)
    simp only [World.size_alloc] at this
    exact this
#print axioms new_k
end Go.Proofs.YtmcgghjeocnpnaaGreatDoor
end
section
set_option linter.unusedVariables false
namespace Go.Proofs.YtmcgghjeocnpnaaGreatDoor
open Go.RowKit Go.Maps

theorem lit_one (w : World) (m : Nat × Nat) (z : Int) (u : UInt8) (e : z = (u.toNat : Int)) : Bs (w.alloc (.cells #[.int .u8 z] 5 m)) (some ⟨w.heap.size, 0, none⟩) 1 [u] := by
  subst e
  refine ⟨?_, by simp, by unfold maxLen; simp, fun h => by cases h⟩
  intro _
  refine ⟨w.heap.size, 0, rfl, fun i hi => ?_⟩
  have hi' : i < 1 := hi
  rw [World.cell?_alloc_mark]
  match i, hi' with
  | 0, _ => rfl
theorem lit_two (w : World) (m : Nat × Nat) (y z : Int) (t u : UInt8) (d : y = (t.toNat : Int)) (e : z = (u.toNat : Int)) : Bs (w.alloc (.cells #[.int .u8 y, .int .u8 z] 5 m)) (some ⟨w.heap.size, 0, none⟩) 2 [t, u] := by
  subst d
  subst e
  refine ⟨?_, by simp, by unfold maxLen; simp, fun h => by cases h⟩
  intro _
  refine ⟨w.heap.size, 0, rfl, fun i hi => ?_⟩
  have hi' : i < 2 := hi
  rw [World.cell?_alloc_mark]
  match i, hi' with
  | 0, _ => rfl
  | 1, _ => rfl

theorem lit_ft (w : World) (m : Nat × Nat) : BRow (w.alloc (.cells #[.bool false, .bool true] 4 m)) (some ⟨w.heap.size, 0, none⟩) [false, true] := by
  intro _
  refine ⟨w.heap.size, 0, rfl, fun i hi => ?_⟩
  have hi' : i < 2 := hi
  rw [World.cell?_alloc_mark]
  match i, hi' with
  | 0, _ => rfl
  | 1, _ => rfl

theorem cut_k (g : Nat → Tg) (i D : Nat) (M : Md) (N : Nat) (n : Nm) (z : Int) (w : World) (h : DK w g i D M N) (hN : N ≤ 1400) (hn : n.length ≤ maxLen) :
    Calls Tryz.prog 104 #[.pointer (some ⟨D, 0, none⟩), .string (str n), .int .i64 z] w fun e w' => e = .returned (.int .i64 (M.cutE n z)) ∧ RK w w' g i D (M.cut n z) (N + 1) := by
  obtain ⟨J, h1, h2, rfl⟩ := h
  exact (cut_any g i J M N n z w h1 h2 hN hn).mono (fun e w' h => ⟨h.1, h.2.rk rfl⟩)
theorem drop_k (g : Nat → Tg) (i D : Nat) (M : Md) (N : Nat) (n : Nm) (w : World) (h : DK w g i D M N) (hN : N ≤ 1400) (hn : n.length ≤ maxLen) :
    Calls Tryz.prog 97 #[.pointer (some ⟨D, 0, none⟩), .string (str n)] w fun e w' => e = .returned (.int .i64 (M.thereE n)) ∧ RK w w' g i D (M.drop n) (N + 1) := by
  obtain ⟨J, h1, h2, rfl⟩ := h
  exact (drop_any g i J M N n w h1 h2 hN hn).mono (fun e w' h => ⟨h.1, h.2.rk rfl⟩)
theorem flush_k (g : Nat → Tg) (i D : Nat) (M : Md) (N : Nat) (w : World) (h : DK w g i D M N) (hN : N ≤ 1400) :
    Calls Tryz.prog 68 #[.pointer (some ⟨D, 0, none⟩)] w fun e w' => e = .returned (.int .i64 0) ∧ RK w w' g i D M.flush (N + 1) := by
  obtain ⟨J, h1, h2, rfl⟩ := h
  exact (flush_any g i J M N w h1 h2 hN).mono (fun e w' h => ⟨h.1, h.2.rk rfl⟩)
theorem RK.behind {w w1 w' : World} {g : Nat → Tg} {i D : Nat} {M : Md} {N : Nat} (hb : Below w.heap.size w w1) (h : RK w1 w' g i D M N) : RK w w' g i D M N := by
  obtain ⟨g', h1, h2⟩ := h
  exact ⟨g', h1, (St.ofBelow g _ hb).trans h2⟩

theorem mod20 (o : Int) : ∃ z : Int, 0 ≤ z ∧ z < 1048576 ∧ wrap64 ((IntKind.u64.wrap o).tmod 1048576) = z ∧ z = o % 1048576 := by
  have e : IntKind.u64.wrap o = o % 18446744073709551616 := by simp [IntKind.wrap, IntKind.bits, IntKind.signed]
  have h0 : 0 ≤ o % 18446744073709551616 := Int.emod_nonneg _ (by omega)
  have e2 : (o % 18446744073709551616).tmod 1048576 = o % 18446744073709551616 % 1048576 := Int.tmod_eq_emod_of_nonneg h0
  refine ⟨o % 1048576, by omega, by omega, ?_, rfl⟩
  rw [e, e2]
  have e3 : o % 18446744073709551616 % 1048576 = o % 1048576 := by omega
  rw [e3, IntWalk.wrap64_in _ (by omega)]

end Go.Proofs.YtmcgghjeocnpnaaGreatDoor
end
