/-
  disk: the clone of files.
-/
import Derived.Test.YtkhpjlgbiicdcaaDskL
import Derived.Sort.KeysCollected
set_option linter.unusedVariables false
namespace Go.Proofs.Ytkhpjlgbiicdcaa
open Go.RowKit Go.Maps

theorem size_has {w w' : World} {R R' : Value → Option (DataW Unit × List MemPlace)} {b b' n n' : Nat} {D D' : DataW Unit} (h : w.ownsMap Try.prog 9 R b n D) (h' : w'.ownsMap Try.prog 9 R' b' n' D') (he : ∀ x, Maps.has D (.string x) = Maps.has D' (.string x)) : Maps.size D = Maps.size D' := by
  have hu := Try.underlying9
  obtain ⟨es, hD, hpw, _⟩ := h.entries law
  obtain ⟨es1, hD1, hko⟩ := h.keysOf
  obtain rfl : es = es1 := by rw [hD] at hD1; simpa using hD1
  obtain ⟨fs, hF, hpw', _⟩ := h'.entries law
  obtain ⟨fs1, hF1, hko'⟩ := h'.keysOf
  obtain rfl : fs = fs1 := by rw [hF] at hF1; simpa using hF1
  subst hD hF
  have k1 : ∀ p ∈ es, ∃ x, p.1 = .string x := fun p hp => by obtain ⟨v, hv⟩ := hko p hp; obtain ⟨x, _, hx, _⟩ := Maps.keyOf_str hu hv; exact ⟨x, hx⟩
  have k2 : ∀ p ∈ fs, ∃ x, p.1 = .string x := fun p hp => by obtain ⟨v, hv⟩ := hko' p hp; obtain ⟨x, _, hx, _⟩ := Maps.keyOf_str hu hv; exact ⟨x, hx⟩
  have hnd : (es.map fun p => strOf p.1).Nodup := by
    refine List.pairwise_map.2 (hpw.imp_of_mem fun {p q} hp' hq' hne e => hne ?_)
    obtain ⟨a, ha⟩ := k1 p hp'
    obtain ⟨b, hb⟩ := k1 q hq'
    rw [ha, hb] at e ⊢
    exact congrArg _ e
  have := (perm_strKeys hpw' k2 hnd (fun x => by
    rw [← he x, has_eq, List.any_eq_true, List.mem_map]
    constructor
    · rintro ⟨p, hp', rfl⟩
      obtain ⟨a, ha⟩ := k1 p hp'
      exact ⟨p, hp', by rw [ha]; simp [Lit.sameKey, strOf]⟩
    · rintro ⟨p, hp', hs⟩
      obtain ⟨a, ha⟩ := k1 p hp'
      rw [ha] at hs
      exact ⟨p, hp', by rw [ha]; simpa [Lit.sameKey, strOf] using hs⟩)).length_eq
  simpa [strKeys, Maps.size] using this

/-- A round's store into the clone. -/
theorem clone_step {wr w1 w2 : World} {go : Nat → Tg} {tr' : Nm → Tg} {B : Nat} {f fo : Files} {no : Nat} {x : Nm} {l : List UInt8} {y : Option Addr} {cy : Nat} {left : Lit → Bool} (hB : B < wr.heap.size) (hfm : FM wr go tr' B fo no) (htr : TR go tr' B) (hfo : ∀ n, fo n = if left (.string n) then none else f n) (hx : x.length ≤ maxLen) (hf : f x = some l) (hlx : left (.string x) = true) (hno : no ≤ 1000000000)
    {r : Nat} (hg1 : wr.grownBy w1 (some r)) (hs1 : w1.heap.size = wr.heap.size) (hrB : r ≠ B) (hro : ∀ n, go r ≠ tr' n) (hgr : ¬ go r = go B) (hbl : Below w1.heap.size w1 w2) (ho : OwnB w2 w1.heap.size y cy l) :
    ∃ w3 go', (Instr.mapUpdate 54 (.map (some B)) (.string (str x)) (.slice y l.length cy)).run Try.prog w2 = .ok () w3 ∧ FM w3 go' tr' B (upd fo x (some l)) (no + 1) ∧ w2.grownBy w3 (some B) ∧ (∀ k, k < wr.heap.size → go' k = go k) ∧ (∀ n, upd fo x (some l) n = if (left (.string n) && !(Lit.string n).sameKey (.string x)) then none else f n) := by
  obtain ⟨y', rfl⟩ := ho.form
  have hylt := ho.lt
  rw [blk_ad] at hylt
  have hst : St wr w2 go (fun k => if k < wr.heap.size then go k else if y' = some k then tr' x else .o) (fun t => t = go r) := by
    refine ⟨hbl.os.trans hg1.os, hbl.tape.trans hg1.tape, hbl.output.trans hg1.output, Nat.le_trans hg1.size hbl.size, fun k hk hs => ?_, fun k hk => by simp [hk]⟩
    rw [hbl.block k (by omega)]
    exact hg1.block k hk (fun e => hs (by rw [Option.some.inj e]))
  have hfx : fo x = none := by rw [hfo x, if_pos hlx]
  have ho' : OwnB w2 0 (ad y') cy l := ho.base (Nat.zero_le _)
  obtain ⟨w3, hup, hfm3, hg3⟩ := hfm.put x hx hst (fun e => hgr e.symm) (fun m hm e => hro m e.symm) (by unfold maxLen; omega) ho' (fun b hb => by
    have := (hylt b hb).1
    show (if b < wr.heap.size then go b else if y' = some b then tr' x else .o) = _
    rw [if_neg (by omega), if_pos hb])
  rw [hfx] at hfm3
  refine ⟨w3, _, hup, hfm3, hg3, fun k hk => by simp [hk], fun n => ?_⟩
  by_cases hn : n = x
  · subst hn; rw [upd_same, hf]; simp [Lit.sameKey]
  · rw [upd_other _ _ _ _ hn, hfo n]
    have : (Lit.string n).sameKey (.string x) = false := sameKey_ne (fun e => hn (by simpa using e))
    rw [this]; simp

theorem run_mkmap (z : Int) (w : World) : (Instr.makeMap 54 (some (.int .i64 z))).run Try.prog w = .ok (.map (some w.heap.size)) (w.alloc (.map #[] 0)) := by
  simp [Instr.makeMap, run_underlying Try.underlying54, asInt, asIntOf, go_sem]
set_option maxRecDepth 20000 in
set_option maxHeartbeats 4000000 in
theorem fclone_any (g : Nat → Tg) (tr tr' : Nm → Tg) (tm' : Tg) (bm : Nat) (f : Files) (cnt : Nat) (w : World) (h : FM w g tr bm f cnt) (h1 : tm' ≠ .o) (h2 : ∀ n, tr' n ≠ .o) (h3 : ∀ n, tm' ≠ tr' n) (h4 : ∀ m n, tr' m = tr' n → m = n) (hl : ∀ n, (fget f n).length ≤ 100000000) (hc : cnt ≤ 1000000) :
    Calls Try.prog 25 #[.map (some bm)] w fun e w' => e = .returned (.map (some w.heap.size)) ∧ Below w.heap.size w w' ∧ ∃ g', FM w' g' tr' w.heap.size f cnt ∧ (∀ k, k < w.heap.size → g' k = g k) ∧ g' w.heap.size = tm' := by
  obtain ⟨D, hD1, hD2, hD3⟩ := h
  have hlen := hD1.len Try.underlying54 3
  have hmm := fun z => run_mkmap z w
  have hbm := hD1.lt
  have HD1 := hide hD1
  have HD2 := hide hD2
  have HD3 := hide hD3
  clear hD2 hD3
  have hown0 := hD1.alloc (.map #[] 0)
  clear hD1
  have hsz0 : (w.alloc (.map #[] 0)).heap.size = w.heap.size + 1 := by simp
  go_enter Try.func25, Try.ntmps25
  go_wp2_with (at_range; refine wpList_range_own _ rfl _ 54 rfl 9 33 law Try.underlying54 _ bm cnt D rfl hown0 ?_; intro w0 hrg0 hg0 hs0)
  go_frame
  rw [hsz0] at hrg0 hs0 ⊢
  have hb0 : Below w.heap.size w w0 := ((Below.refl _ _).alloc (Nat.le_refl _) (.map #[] 0)).grown hg0 (by simp) (fun j hj => by cases hj)
  have HI : Hid (FM w0 (fun k => if k < w.heap.size then g k else if k = w.heap.size then tm' else .o) tr' w.heap.size (fun _ => none) 0) := by
    have := FM.made w (fun k => if k < w.heap.size then g k else if k = w.heap.size then tm' else .o) tr'
    exact this.st (St.ofG (S := fun _ => False) hg0 (fun k hk => by cases hk)) (fun e => e) (fun _ e => e)
  have HB0 := hide hb0
  have HS0 := hide hs0
  clear hown0 hlen hmm hsz0 hg0 hb0 hs0
  go_loopw [4] (fun _ wr => ∃ (left : Lit → Bool) (c : Nat) (fo : Files) (no : Nat) (go : Nat → Tg), wr.ranges Try.prog 9 slE bm (w.heap.size + 1) cnt D left c ∧ Hid (FM wr go tr' w.heap.size fo no) ∧ Hid (∀ n, fo n = if left (.string n) then none else f n) ∧ Hid (∀ n, left (.string n) = true → Maps.has D (.string n) = true) ∧ Hid (no + c ≤ cnt) ∧ Hid (Below w.heap.size w wr) ∧ Hid (∀ k, k < w.heap.size → go k = g k) ∧ Hid (go w.heap.size = tm' ∧ go (w.heap.size + 1) = .o) ∧ Hid (w.heap.size + 2 ≤ wr.heap.size)) (fun _ wr => wr.rangeLeft bm (w.heap.size + 1))
  case atStart =>
    refine ⟨_, _, _, _, _, hrg0, HI, ?_, fun n hn => hn, ?_, HB0, fun k hk => by simp [hk], ?_, ?_⟩
    · intro n
      rcases unhide HD3 n with ⟨e1, e2⟩ | ⟨l, x, c, e1, e2, _⟩
      · rw [e2, e1]; rfl
      · rw [e2]; rfl
    · show 0 + _ ≤ _; rw [unhide HD2]; omega
    · refine ⟨by simp, ?_⟩
      show (if w.heap.size + 1 < w.heap.size then g (w.heap.size + 1) else if w.heap.size + 1 = w.heap.size then tm' else .o) = .o
      rw [if_neg (by omega), if_neg (by omega)]
    · show _ ≤ _; have := unhide HS0; omega
  case round =>
    obtain ⟨left, c, fo, no, go, hrg, HF, Hfo, Hlf, Hno, HB, Hgo, Htag, Hsz⟩ := hrel
    go_wp2_with (first | (at_next; refine wpList_next_ranges _ rfl _ rfl 9 law slE (fun x : List UInt8 => Value.string (str x)) (fun p : Option Nat × Nat × Nat => Value.slice (ad p.1) p.2.1 p.2.2) (fun key kl hkey => by obtain ⟨x, e, _⟩ := Maps.keyOf_str Try.underlying9 hkey; exact ⟨x, e⟩) (fun v y hv => by obtain ⟨x, n, c, e, _⟩ := slE_form hv; exact ⟨(x, n, c), e⟩) bm (w.heap.size + 1) cnt D left c rfl hrg ?_ ?_) | go_in)
    · intro hc0 hl0
      have HF1 : Hid (FM wr go tr' w.heap.size f cnt) := by
        have e : fo = f := by funext n; rw [unhide Hfo n, hl0]; rfl
        obtain ⟨D', k1, k2, k3⟩ := unhide HF
        rw [e] at k3
        have hh : ∀ x, Maps.has D (.string x) = Maps.has D' (.string x) := by
          intro x
          rcases unhide HD3 x with ⟨e1, e2⟩ | ⟨l, y, cc, e1, e2, _⟩
          · rcases k3 x with ⟨_, e4⟩ | ⟨l', y', cc', e3, e4, _⟩
            · rw [e2, e4]
            · rw [e1] at e3; cases e3
          · rcases k3 x with ⟨e3, e4⟩ | ⟨l', y', cc', e3, e4, _⟩
            · rw [e1] at e3; cases e3
            · rw [e2, e4]
        have hsz := size_has (unhide HD1) k1 hh
        have e5 : no = cnt := by rw [← k2, ← hsz]; exact unhide HD2
        subst e5
        exact ⟨D', k1, k2, k3⟩
      clear hrg
      go_wp2
      go_ret
      exact ⟨rfl, unhide HB, go, unhide HF1, unhide Hgo, (unhide Htag).1⟩
    · intro x p1 p2 p3 kl y1 y2 w1 c1 hkey hlx hv hat hrg1 hlt hg1 hs1 hen
      obtain ⟨x', ex, rfl, hxl⟩ := Maps.keyOf_str Try.underlying9 hkey
      obtain rfl : x = x' := by
        have e : Value.string (str x) = Value.string (str x') := ex
        simpa [str] using e
      have hfx : ∃ l, f x = some l ∧ p2 = l.length ∧ OwnB w 0 (ad p1) p3 l := by
        rcases unhide HD3 x with ⟨e1, e2⟩ | ⟨l, y0, cc, e1, e2, e3, e4, _⟩
        · have := unhide Hlf x hlx
          rw [e2] at this; cases this
        · refine ⟨l, e1, ?_⟩
          have hv' : slE (.slice (ad p1) p2 p3) = some (y1, y2) := hv
          rw [slE_mk] at hv'
          have e5 := hat (enS none 0 0)
          have e6 : enS p1 p2 p3 = y1 := congrArg Prod.fst (Option.some.inj hv')
          rw [e3, ← e6] at e5
          obtain ⟨i1, i2, i3⟩ := enS_inj e5
          exact ⟨i2.symm, by rw [← i1, ← i3]; exact e4⟩
      obtain ⟨l, hfl, hpl, hol⟩ := hfx
      subst hpl
      have hbw1 : Below w.heap.size w w1 := (unhide HB).grown hg1 (Nat.le_trans (Nat.le_refl _) (unhide HB).size) (fun j hj => by rw [← Option.some.inj hj]; omega)
      have hol1 := hol.below hbw1 (Nat.le_refl _)
      have hll : l.length ≤ 100000000 := by have := hl x; simp only [fget, hfl, Option.getD_some] at this; exact this
      have HRG := hide (And.intro hrg (And.intro hrg1 hlt))
      have HG1 := hide (And.intro hg1 hs1)
      have HX := hide (And.intro hfl hlx)
      clear hrg hrg1 hlt hg1 hfl hlx hat hv hkey ex hol
      go_wp2_with fail
      refine (bclone_any (ad p1) l.length p3 l w1 hol1.toBs rfl hll).mono ?_
      rintro e w2 ⟨y2, c2, r, rfl, hr, ho2, hb2⟩
      obtain rfl : r = l := unhide hr
      obtain ⟨w3, go3, hup, hfm3, hg3, hag, hfo3⟩ := clone_step (f := f) (by have := unhide Hsz; omega) (unhide HF) ⟨fun m e => h3 m (by rw [← (unhide Htag).1]; exact e), h4⟩ (unhide Hfo) hxl (unhide HX).1 (unhide HX).2 (by have := unhide Hno; omega) (unhide HG1).1 (unhide HG1).2 (by omega) (fun n e => h2 n (by rw [← e]; exact (unhide Htag).2)) (fun e => h1 (by rw [← (unhide Htag).1, ← e]; exact (unhide Htag).2)) hb2 ho2
      have HF3 := hide hfm3
      have HG3 := hide hg3
      have HA3 := hide hag
      have HO3 := hide hfo3
      have HB2 := hide hb2
      have HO2 := hide ho2
      have HB1 := hide hbw1
      clear hfm3 hg3 hag hfo3 hb2 ho2 hol1 hbw1
      have hRG : w3.ranges Try.prog 9 slE bm (w.heap.size + 1) cnt D (fun z => left z && !z.sameKey (.string x)) c1 := by
        have hb2 := unhide HB2
        have k2 : w1.grownBy w2 none := ⟨hb2.os, hb2.tape, hb2.output, hb2.size, fun k hk _ => hb2.block k hk⟩
        exact (((unhide HRG).2.1).kept k2 (by simp) (by simp)).kept (unhide HG3) (by simp; omega) (by simp)
      have HRG3 := hide hRG
      clear hRG
      go_wp2_with fail
      refine ⟨⟨_, c1, _, no + 1, go3, unhide HRG3, HF3, HO3, ?_, ?_, ?_, ?_, ?_, ?_⟩, ?_⟩
      · intro n hn
        simp only [Bool.and_eq_true] at hn
        exact unhide Hlf n hn.1
      · show no + 1 + c1 ≤ cnt
        have := unhide Hno
        have := (unhide HRG).2.2
        omega
      · show Below _ _ _
        have hb1 := unhide HB1
        have k1 := (unhide HG1).2
        refine (hb1.trans ((unhide HB2).mono hb1.size)).grown (unhide HG3) (Nat.le_trans hb1.size (unhide HB2).size) (fun j hj => by rw [← Option.some.inj hj]; exact Nat.le_refl _)
      · intro k hk
        have := unhide Hsz
        rw [unhide HA3 k (by omega)]
        exact unhide Hgo k hk
      · have := unhide Hsz
        exact ⟨(unhide HA3 _ (by omega)).trans (unhide Htag).1, (unhide HA3 _ (by omega)).trans (unhide Htag).2⟩
      · show _ ≤ _
        have q1 := unhide Hsz
        have q2 := (unhide HG1).1.size
        have q3 := (unhide HB2).size
        have q4 := (unhide HG3).size
        omega
      · rw [(unhide HRG3).left_eq, (unhide HRG).1.left_eq]
        exact (unhide HRG).2.2
#print axioms fclone_any
end Go.Proofs.Ytkhpjlgbiicdcaa
