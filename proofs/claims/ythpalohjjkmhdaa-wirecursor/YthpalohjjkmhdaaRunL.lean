/-
  THE WALK OF WireRuns.
-/
import Derived.Test.YthpalohjjkmhdaaFrsW
import Derived.Test.YthpalohjjkmhdaaFrsR
import Derived.Test.YthpalohjjkmhdaaEqfW
import Derived.Test.YthpalohjjkmhdaaBit
import Derived.Lib.SlBytesConst
set_option linter.unusedVariables false
namespace Go.Proofs.Ythpalohjjkmhdaa
open Go.RowKit

theorem sum_nil' (w : World) : Calls Try.prog 8 #[.slice none 0 0] w fun e w' => e = .returned (.int .u32 0) ∧ w' = w := by
  refine (wsum_none none 0 w).mono ?_
  rintro e w' ⟨rfl, rfl⟩
  exact ⟨ret_int (by decide +kernel), rfl⟩
theorem row_stored {w : World} {base g cap : Nat} {l : List UInt8} (h : OwnB w base (some ⟨g, 0, none⟩) cap l) (j : Nat) (c : UInt8) : OwnB (w.setCell ⟨g, j, none⟩ (.int .u8 (c.toNat : Int))) base (some ⟨g, 0, none⟩) cap (l.set j c) := by
  have := World.ownsRow.stored h j (.int .u8 (c.toNat : Int))
  unfold OwnB
  rw [List.length_set]
  have e : bs (l.set j c) = (bs l).set j (.int .u8 (c.toNat : Int)) := by simp [bs, List.map_set]
  rw [e]
  exact this.1
theorem row_any {w : World} {base cap : Nat} {a : Option Addr} {l : List UInt8} (h : OwnB w base a cap l) (g j : Nat) (c : UInt8) : ∃ r, r.length = l.length ∧ OwnB (w.setCell ⟨g, j, none⟩ (.int .u8 (c.toNat : Int))) base a cap r := by
  by_cases e : blk a = some g
  · rcases h.cases with ⟨rfl, _, _⟩ | ⟨g', cur, rfl, _⟩
    · simp [blk] at e
    · simp [blk] at e
      subst e
      exact ⟨l.set j c, by simp, row_stored h j c⟩
  · exact ⟨l, rfl, h.kept (gset w ⟨g, j, none⟩ _) (.inr (by intro h; exact e h))⟩
theorem sl_stored {w : World} {base g cap : Nat} {l : List Sl} (h : OwnS w base (some ⟨g, 0, none⟩) cap l) (j : Nat) (x : Sl) : OwnS (w.setCell ⟨g, j, none⟩ (.slice x.1 x.2.1 x.2.2)) base (some ⟨g, 0, none⟩) cap (l.set j x) := by
  have := World.ownsRow.stored h j (.slice x.1 x.2.1 x.2.2)
  unfold OwnS
  rw [List.length_set]
  have e : sls (l.set j x) = (sls l).set j (.slice x.1 x.2.1 x.2.2) := by simp [sls, List.map_set]
  rw [e]
  exact this.1

theorem lit1 (w : World) (m : Nat × Nat) : Bs (w.alloc (.cells #[.int .u8 97] 5 m)) (some ⟨w.heap.size, 0, none⟩) 1 [97] := by
  refine ⟨?_, by simp, by unfold maxLen; omega, fun h => by cases h⟩
  intro _
  refine ⟨w.heap.size, 0, rfl, fun i hi => ?_⟩
  have hi' : i = 0 := by simp at hi; exact hi
  subst hi'
  rw [World.cell?_alloc_mark]
  rfl

set_option maxHeartbeats 1000000 in
theorem wireRuns_big (a0 : Option Addr) (cap0 : Nat) (l0 : List UInt8) (w : World) (hm : l0.length ≤ maxLen) (h1 : 20000 < l0.length) :
    Calls Try.prog 3 #[.slice a0 l0.length cap0] w fun e w' => e = .returned (.bool true) ∧ Below w.heap.size w w' := by
  unfold maxLen at hm
  go_enter Try.func3, Try.ntmps3
  go_wp2_with fail
  refine (sum_nil' w).mono ?_
  rintro e w1 ⟨rfl, rfl⟩
  go_wp2
  go_ret
  exact ⟨rfl, Below.refl _ _⟩

set_option maxHeartbeats 2000000 in
theorem wireRuns_small (a0 : Option Addr) (cap0 : Nat) (l0 : List UInt8) (w : World) (p0 : Bs w a0 cap0 l0) (h0 : ¬ 20000 < l0.length) :
    Calls Try.prog 3 #[.slice a0 l0.length cap0] w fun e w' => e = .returned (.bool true) ∧ Below w.heap.size w w' := by
  go_enter Try.func3, Try.ntmps3
  go_wp2_with fail
  refine (sclone_any a0 _ cap0 l0 w p0 rfl (by omega)).mono ?_
  rintro e w1 ⟨a1, cap1, g, rfl, hr1, ho1, hb1⟩
  have eg : g = l0 := hr1.out
  subst eg
  clear hr1
  have q1 := p0.below hb1 (Nat.le_refl _)
  go_wp2_with fail
  refine (frames_any a1 cap1 g w1 ho1.toBs (by omega)).mono ?_
  rintro e w2 ⟨a4, cap4, vs, rfl, ho4, hp4, hb2⟩
  have q2 := q1.below hb2 (Nat.le_refl _)
  have hb2s := hb2.size
  obtain ⟨F, hF⟩ : ∃ F, F = frs g := ⟨_, rfl⟩
  rw [← hF] at hp4 ⊢
  obtain ⟨V, hV⟩ : ∃ V : Nat, V = vs.length := ⟨_, rfl⟩
  go_wp2_with fail
  refine (rframes_any a0 cap0 g w2 q2 (by omega)).mono ?_
  rintro e w3 ⟨a6, cap6, us, rfl, ho6, hp6, hb3⟩
  rw [← hF] at hp6 ⊢
  have HF := hide hF
  clear hF
  have ho4' := ho4.below hb3 (Nat.le_refl _)
  have hp4' := hp4.below hb3 (Nat.le_refl _)
  have hb23 : Below w1.heap.size w1 w3 := hb2.trans (hb3.mono hb2.size)
  clear ho4 hp4 hb2 hb3
  have hvl : vs.length ≤ 20000 := by
    have h1 := hp4'.len
    rw [unhide HF] at h1
    have h2 := frs_len _ g (Nat.le_refl _)
    omega
  have hul : us.length ≤ 20000 := by
    have h1 := hp6.len
    rw [unhide HF] at h1
    have h2 := frs_len _ g (Nat.le_refl _)
    omega
  go_wp2_with fail
  refine (eqfunc_any a4 cap4 vs F.1 a6 cap6 us F.1 w3 (SR.of ho4' hp4') (SR.of ho6 hp6) (by omega) (by omega)).mono ?_
  rintro e w3' ⟨rfl, rfl⟩
  rw [show (F.1 == F.1) = true by simp]
  have HA := hide hp4'.apart
  have HP : Hid (∀ (j : Nat) (x : Sl), 0 ≤ j → vs[j]? = some x → ∃ p, x.2.1 = p.length ∧ OwnB w3' w1.heap.size x.1 x.2.2 p) := by
    intro j x _ hx
    have hj : j < F.1.length := by have := (List.getElem?_eq_some_iff.1 hx).1; have := hp4'.len; omega
    obtain ⟨c, cp, e1, e2⟩ := hp4'.own j _ (List.getElem?_eq_getElem hj)
    rw [hx] at e1
    obtain rfl := Option.some.inj e1
    exact ⟨_, rfl, e2⟩
  have HL : Hid (∀ (j : Nat) (x : Sl), vs[j]? = some x → x.2.1 ≤ 20000) := by
    intro j x hx
    have hj : j < F.1.length := by have := (List.getElem?_eq_some_iff.1 hx).1; have := hp4'.len; omega
    obtain ⟨c, cp, e1, e2⟩ := hp4'.own j _ (List.getElem?_eq_getElem hj)
    rw [hx] at e1
    obtain rfl := Option.some.inj e1
    have h1 : F.1[j] ∈ F.1 := List.getElem_mem _
    have h2 : F.1[j].length ≤ g.length := frs_mem _ g (Nat.le_refl _) _ (by rw [← unhide HF]; exact h1)
    simp only
    omega
  clear hp4' hp6 ho6 HF hV q1 q2 hb2s hul
  go_wp2
  go_loopw [41] (fun i wr => ∃ (k : Nat) (us : List Sl), k ≤ vs.length ∧ i = .int .i64 (k : Int) ∧ us.length = vs.length ∧ Hid (∀ j : Nat, k ≤ j → us[j]? = vs[j]?) ∧ Hid (∀ (j : Nat) (x : Sl), k ≤ j → vs[j]? = some x → ∃ p, x.2.1 = p.length ∧ OwnB wr w1.heap.size x.1 x.2.2 p) ∧ OwnS wr w1.heap.size a4 cap4 us ∧ Below w1.heap.size w1 wr) (fun i _ => vs.length - (intOf i).toNat)
  case atStart => exact ⟨0, vs, Nat.zero_le _, rfl, rfl, fun _ _ => rfl, HP, ho4', hb23⟩
  case round =>
    clear HP ho4' hb23
    obtain ⟨k, us, hk, rfl, hul, HU, HP, ho, hb⟩ := hrel
    have hbs := hb.size
    by_cases hlt : k < vs.length
    · have hx := List.getElem?_eq_getElem hlt
      obtain ⟨⟨xa, xn, xc⟩, hxe⟩ : ∃ x, x = vs[k] := ⟨_, rfl⟩
      rw [← hxe] at hx
      obtain ⟨p, hpn, hop⟩ := unhide HP k _ (Nat.le_refl _) hx
      simp only at hpn hop
      subst hpn
      clear hxe
      obtain ⟨g4, rfl, hg40, hg41, hgf, hgc⟩ := ho.some (by omega)
      have hck := hgc k _ ((unhide HU k (Nat.le_refl _)).trans hx)
      simp only at hck
      have hfk := hgf k
      clear hgc hgf
      have HX := hide hx
      clear hx
      have hpl : p.length ≤ 20000 := unhide HL k _ (unhide HX)
      go_wp2_with (at_builtin; refine wp_app _ rfl _ _ rfl w1.heap.size xa xc p rfl (hop.alloc _) (some ⟨wr.heap.size, 0, none⟩) 1 [1] 1 rfl rfl (row_lit _ _ _ rfl) (fun h => by cases h) ?c5 ?c6 ?_)
      case c5 => first | omega | (simp; omega)
      case c6 => first | omega | (simp; omega)
      intro a2 cap2 r2 w4 hr2 ho2 hg2
      have hr2l : r2.length = p.length + 1 := by rw [unhide hr2]; simp
      obtain ⟨g2, cur2, rfl, hg20, hg2h, _⟩ : ∃ g2 cur, a2 = some ⟨g2, 0, none⟩ ∧ w1.heap.size ≤ g2 ∧ w4.heap[g2]? = some (.cells cur 5 (0, 0)) ∧ True := by
        rcases ho2.cases with ⟨_, _, e⟩ | ⟨g, cur, e1, e2, e3, _⟩
        · rw [e] at hr2l; simp at hr2l
        · exact ⟨g, cur, e1, e2, e3, trivial⟩
      have hoS : OwnS w4 w1.heap.size (some ⟨g4, 0, none⟩) cap4 us := (ho.alloc _).kept hg2 (ho.ne hop)
      have hb4 : Below w1.heap.size w1 w4 := below_grown (hb.alloc hb.size _) hg2 (Nat.le_refl _) (fun j hj => (hop.lt j hj).1)
      have HP4 : Hid (∀ (j : Nat) (x : Sl), k + 1 ≤ j → vs[j]? = some x → ∃ p, x.2.1 = p.length ∧ OwnB w4 w1.heap.size x.1 x.2.2 p) := by
        intro j x hj hx
        obtain ⟨q, e1, e2⟩ := unhide HP j x (by omega) hx
        refine ⟨q, e1, (e2.alloc _).kept hg2 ?_⟩
        cases hbx : blk x.1 with
        | none => exact .inl rfl
        | some gx =>
          right
          intro e
          have := unhide HA k j _ x (by omega) (unhide HX) hx gx gx e.symm hbx
          omega
      have hne : g2 ≠ g4 := by
        intro e
        subst e
        rcases hoS.cases with ⟨h, _, _⟩ | ⟨g, cur, e1, _, e3, _⟩
        · cases h
        · obtain rfl : g2 = g := by simpa using e1
          rw [hg2h] at e3
          simp at e3
      obtain ⟨_, e4, _, _, hgf4, hgc4⟩ := hoS.some (by omega)
      obtain rfl := (Addr.mk.inj (Option.some.inj e4)).1
      have hck4 := hgc4 k _ ((unhide HU k (Nat.le_refl _)).trans (unhide HX))
      simp only at hck4
      have hfk4 := hgf4 k
      clear hgc4 hgf4 e4 hck hfk
      have hc20 := (ho2.toBs.row (by intro e; rw [e] at hr2l; simp at hr2l))
      obtain ⟨d, hd⟩ : ∃ d : UInt8, d = r2.getD 0 0 := ⟨_, rfl⟩
      have hcd : w4.cell? ⟨g2, 0, none⟩ = some (.int .u8 (d.toNat : Int)) := by
        obtain ⟨b, off, e, hc⟩ := hc20
        have e2 := Addr.mk.inj (Option.some.inj e)
        obtain ⟨rfl, rfl, _⟩ := e2
        have := hc 0 (by omega)
        rw [hd]
        exact this
      have hfd : w4.frozen? ⟨g2, 0, none⟩ = false := frozen_of_row w4 g2 0 _ _ hg2h
      clear hc20
      have hr2p : 0 < r2.length := by omega
      have hr2m : r2.length ≤ 20001 := by omega
      clear hr2l
      obtain ⟨c, hcc⟩ : ∃ c : UInt8, c = d ^^^ 255 := ⟨_, rfl⟩
      have hxor : bits .xor .u8 (d.toNat : Int) 255 = (c.toNat : Int) := by
        have := u8_xor_nat d.toNat 255 d.toNat_lt (by omega)
        rw [hcc, UInt8.toNat_xor]
        exact this
      have hdl := d.toNat_lt
      have hcl := c.toNat_lt
      have hoS5 := sl_stored hoS k (some ⟨g2, 0, none⟩, r2.length, cap2)
      have ho25 : OwnB (w4.setCell ⟨g4, k, none⟩ (.slice (some ⟨g2, 0, none⟩) r2.length cap2)) w1.heap.size (some ⟨g2, 0, none⟩) cap2 r2 := ho2.kept (gset w4 ⟨g4, k, none⟩ _) (.inr (by simp [blk]; exact hne))
      have HP5 : Hid (∀ (j : Nat) (x : Sl), k + 1 ≤ j → vs[j]? = some x → ∃ p, x.2.1 = p.length ∧ OwnB (w4.setCell ⟨g4, k, none⟩ (.slice (some ⟨g2, 0, none⟩) r2.length cap2)) w1.heap.size x.1 x.2.2 p) := by
        intro j x hj hx
        obtain ⟨q, e1, e2⟩ := unhide HP4 j x hj hx
        refine ⟨q, e1, e2.kept (gset w4 ⟨g4, k, none⟩ _) ?_⟩
        exact hoS.ne' e2
      have hb5 : Below w1.heap.size w1 (w4.setCell ⟨g4, k, none⟩ (.slice (some ⟨g2, 0, none⟩) r2.length cap2)) := below_grown (a := some ⟨g4, 0, none⟩) hb4 (gset w4 ⟨g4, k, none⟩ _) (Nat.le_refl _) (fun j hj => by simp [blk] at hj; omega)
      have HU5 : Hid (∀ j : Nat, k + 1 ≤ j → (us.set k (some ⟨g2, 0, none⟩, r2.length, cap2))[j]? = vs[j]?) := by
        intro j hj
        rw [List.getElem?_set_ne (by omega)]
        exact unhide HU j (by omega)
      have hul5 : (us.set k (some ⟨g2, 0, none⟩, r2.length, cap2)).length = vs.length := by rw [List.length_set]; exact hul
      clear HP4 HP HU hop ho hb hg2 hoS hb4 hd hcc hr2
      have hoS6 : OwnS ((w4.setCell ⟨g4, k, none⟩ (.slice (some ⟨g2, 0, none⟩) r2.length cap2)).setCell ⟨g2, 0, none⟩ (.int .u8 (c.toNat : Int))) w1.heap.size (some ⟨g4, 0, none⟩) cap4 (us.set k (some ⟨g2, 0, none⟩, r2.length, cap2)) := hoS5.kept (gset _ ⟨g2, 0, none⟩ _) (.inr (by simp [blk]; exact fun h => hne h.symm))
      have hb6 : Below w1.heap.size w1 ((w4.setCell ⟨g4, k, none⟩ (.slice (some ⟨g2, 0, none⟩) r2.length cap2)).setCell ⟨g2, 0, none⟩ (.int .u8 (c.toNat : Int))) := below_grown (a := some ⟨g2, 0, none⟩) hb5 (gset _ ⟨g2, 0, none⟩ _) (Nat.le_refl _) (fun j hj => by simp [blk] at hj; omega)
      have HP6 : Hid (∀ (j : Nat) (x : Sl), k + 1 ≤ j → vs[j]? = some x → ∃ p, x.2.1 = p.length ∧ OwnB ((w4.setCell ⟨g4, k, none⟩ (.slice (some ⟨g2, 0, none⟩) r2.length cap2)).setCell ⟨g2, 0, none⟩ (.int .u8 (c.toNat : Int))) w1.heap.size x.1 x.2.2 p) := by
        intro j x hj hx
        obtain ⟨q, e1, e2⟩ := unhide HP5 j x hj hx
        obtain ⟨r, e3, e4⟩ := row_any e2 g2 0 c
        exact ⟨r, by rw [e3]; exact e1, e4⟩
      clear HP5 hoS5 hb5
      go_wp2
      go_roundw
      case rel => exact ⟨k + 1, us.set k (some ⟨g2, 0, none⟩, r2.length, cap2), by omega, by go_num, hul5, HU5, HP6, hoS6, hb6⟩
      case measure => simp [intOf]; omega
    · obtain rfl : k = vs.length := by omega
      have hW := hb1.trans (hb.mono hb1.size)
      have ho1' := ho1.below hb (Nat.le_refl _)
      have p1' := p0.below hW (Nat.le_refl _)
      have hws := hW.size
      clear HU HP ho hb ho1
      have kc := fun (w : World) (C : Array Value) (n c : Nat) => Lib.run_convert_bytes_const (P := Try.prog) w 22 5 C n c Try.underlying22 Try.underlying5
      go_wp2_with fail
      refine (frame_ok (some ⟨wr.heap.size, 0, none⟩) 1 1 [97] _ (lit1 wr _) rfl (by simp)).mono ?_
      rintro e w5 ⟨a5, cap5, f, rfl, hr5, ho5, hb5⟩
      have hfe := unhide hr5
      have hF : frs f = ([[97]], 8) := by
        have := frs_lead [97] [] (by simp)
        rw [List.append_nil, frs_nil] at this
        rw [hfe, this]
        rfl
      have hfl : f.length ≤ 8 := by rw [hfe, frameOf_length]; decide
      have hbA : Below w.heap.size w w5 := (hW.alloc hW.size _).trans (hb5.mono (by simp; omega))
      have ho15 := (ho1'.alloc _).below hb5 (Nat.le_refl _)
      have p15 := p0.below hbA (Nat.le_refl _)
      clear hr5 hfe ho1' hW hb5 p1' kc
      go_wp2_with fail
      refine (frames_any a5 cap5 f w5 ho5.toBs (by omega)).mono ?_
      rintro e w6 ⟨a7, cap7, us7, rfl, ho7, hp7, hb6⟩
      rw [hF] at hp7 ⊢
      have hu7 : us7.length = 1 := hp7.len
      have hbB := hbA.trans (hb6.mono hbA.size)
      have ho16 := ho15.below hb6 (Nat.le_refl _)
      have p16 := p15.below hb6 (Nat.le_refl _)
      rw [hu7]
      clear hF hp7 ho7 hb6 hbA ho15 p15 hu7
      go_wp2_with fail
      refine (equal_any a1 _ cap1 g a0 _ cap0 g w6 ho16.toBs.row p16.row rfl rfl).mono ?_
      rintro e w7 ⟨rfl, rfl⟩
      rw [show (g == g) = true by simp]
      go_wp2
      go_ret
      exact ⟨rfl, hbB⟩

theorem wireRuns_walk (a0 : Option Addr) (cap0 : Nat) (l0 : List UInt8) (w : World) (p0 : Bs w a0 cap0 l0) :
    Calls Try.prog 3 #[.slice a0 l0.length cap0] w fun e w' => e = .returned (.bool true) ∧ Below w.heap.size w w' := by
  by_cases h : 20000 < l0.length
  · exact wireRuns_big a0 cap0 l0 w (Nat.le_trans p0.le p0.most) h
  · exact wireRuns_small a0 cap0 l0 w p0 h
#print axioms wireRuns_walk

end Go.Proofs.Ythpalohjjkmhdaa
