/-
  THE WALK of AuthtokSecrets.
-/
import Derived.Test.YthliodpihbbjfaaDoorSecX
set_option linter.unusedVariables false
set_option maxRecDepth 1000000
namespace Go.Proofs.YthliodpihbbjfaaDoor
open Go.RowKit

theorem erase_map : ∀ (l : List Se) (i : Nat), (l.eraseIdx i).map (·.1) = (l.map (·.1)).eraseIdx i
  | [], i => by simp
  | t :: r, 0 => by simp
  | t :: r, i + 1 => by simp [erase_map r i]
set_option maxHeartbeats 8000000 in
theorem authtokSecrets_walk (p : Option Addr) (cp : Nat) (L : List Sec) (at' : Int) (c g : List UInt8) (u now : Int) (w : World) (h : SecR w p L) (hl : L.length ≤ maxLen) (hc : c.length ≤ maxLen) (hg : g.length ≤ maxLen) (hu0 : -9223372036854775808 ≤ u) (hu1 : u ≤ 9223372036854775807) (hT : Tb w) :
    Calls Tryd.prog 8 #[.slice p L.length cp, .int .i64 at', .agg #[.string (str c), .string (str g), .int .i64 u], .int .i64 now] w fun e w' => e = .returned (.bool true) ∧ Below w.heap.size w w' := by
  unfold maxLen at hc hg
  have HS := hide h
  have HT := hide hT
  have hsc : (str c).size = c.length := str_size c
  have hsg : (str g).size = g.length := str_size g
  clear h hT
  have HAW : Hid (∀ W, Hid (Below w.heap.size w W) → Calls Tryd.prog 10 #[] W fun e W' => e = .returned (.bool true) ∧ Hid (Below w.heap.size w W')) := by
    intro W h
    refine (awake_any W (HT.out.below h.out HT.out.big)).mono ?_
    rintro e W' ⟨rfl, hb⟩
    exact ⟨rfl, h.out.trans (hb.mono h.out.size)⟩
  go_enter Tryd.func8, Tryd.ntmps8
  go_wp2_with fail
  have HC1 := hide (ClC.new w c g u)
  have HB1 : Hid (Below w.heap.size w (w.alloc (.cells #[.string (str c), .string (str g), .int .i64 u] 24))) := (Below.refl _ _).alloc (Nat.le_refl _) _
  generalize w.alloc (.cells #[.string (str c), .string (str g), .int .i64 u] 24) = w1 at *
  refine (secrets_any p cp L w1 (HS.out.below HB1.out (Nat.le_refl _)) hl).mono ?_
  rintro e w2 ⟨hb2, hv⟩
  have HC2 := hide (HC1.out.below hb2.out (Nat.le_refl _))
  have HB2 : Hid (Below w.heap.size w w2) := HB1.out.trans (hb2.out.mono HB1.out.size)
  clear hb2 HC1 HB1
  obtain ⟨k0, k1, k2⟩ := HC2.out
  rcases hv with rfl | ⟨a, cap, rfl, HS2, hcap, hcm, h21⟩
  · go_wp2_with (go_at_call 10; refine (HAW.out _ HB2).mono ?_; rintro e w9 ⟨rfl, hb9⟩)
    go_ret
    exact ⟨rfl, hb9.out⟩
  unfold maxLen at hcm
  go_wp2_with fail
  refine (check_any a cap L L.length w2 rfl HS2.out (by omega)).mono ?_
  rintro e w3 ⟨rfl, hb3⟩
  have HS3 := hide (HS2.out.below hb3 (Nat.le_refl _))
  have HC3 := hide (HC2.out.below hb3 (Nat.le_refl _))
  have HB3 : Hid (Below w.heap.size w w3) := HB2.out.trans (hb3.mono HB2.out.size)
  clear hb3 HC2 HB2 HS2 k0 k1 k2
  obtain ⟨k0, k1, k2⟩ := HC3.out
  cases hck : ckOk L with
  | false =>
    go_wp2_with (go_at_call 10; refine (HAW.out _ HB3).mono ?_; rintro e w9 ⟨rfl, hb9⟩)
    go_ret
    exact ⟨rfl, hb9.out⟩
  | true =>
  have HCK := hide hck
  clear hck
  by_cases q0 : L.length < 2
  · have d0 : decide ((L.length : Int) < 2) = true := decide_eq_true (by omega)
    go_wp2_with (go_at_call 10; refine (HAW.out _ HB3).mono ?_; rintro e w9 ⟨rfl, hb9⟩)
    go_ret
    exact ⟨rfl, hb9.out⟩
  have d0 : decide ((L.length : Int) < 2) = false := decide_eq_false (by omega)
  by_cases q1 : 65536 < c.length
  · have d1 : decide ((65536 : Int) < (c.length : Int)) = true := decide_eq_true (by omega)
    go_wp2_with (go_at_call 10; refine (HAW.out _ HB3).mono ?_; rintro e w9 ⟨rfl, hb9⟩)
    go_ret
    exact ⟨rfl, hb9.out⟩
  have d1 : decide ((65536 : Int) < (c.length : Int)) = false := decide_eq_false (by omega)
  by_cases q2 : 65536 < g.length
  · have d2 : decide ((65536 : Int) < (g.length : Int)) = true := decide_eq_true (by omega)
    go_wp2_with (go_at_call 10; refine (HAW.out _ HB3).mono ?_; rintro e w9 ⟨rfl, hb9⟩)
    go_ret
    exact ⟨rfl, hb9.out⟩
  have d2 : decide ((65536 : Int) < (g.length : Int)) = false := decide_eq_false (by omega)
  obtain ⟨K, hK⟩ : ∃ K : Nat, IntKind.u64.wrap at' = (K : Int) := ⟨(IntKind.u64.wrap at').toNat, by rw [IntKind.wrap_u64]; omega⟩
  have hW : IntKind.u64.wrap (L.length : Int) = (L.length : Int) := by rw [IntKind.wrap_u64]; omega
  obtain ⟨I, hI⟩ : ∃ I, I = K % L.length := ⟨_, rfl⟩
  have hIl : I < L.length := by rw [hI]; exact Nat.mod_lt _ (by omega)
  have hI1 : (K : Int).tmod (L.length : Int) = (I : Int) := by rw [hI]; exact tmod_natc K L.length
  have hI2 : (K : Int) % (L.length : Int) = (I : Int) := by rw [hI]; simp
  have hIw : IntKind.i64.wrap (I : Int) = (I : Int) := by rw [IntKind.wrap_i64]; omega
  clear hI
  obtain ⟨k, hk⟩ : ∃ k, L[I]? = some k := ⟨_, List.getElem?_eq_getElem hIl⟩
  obtain ⟨b, off, x, cx, rfl, -, -, -, -⟩ := HS3.out.at hk
  have HKK := hide hk
  clear hk
  obtain ⟨n, hn⟩ : ∃ n, n = I + 1 := ⟨_, rfl⟩
  have htl : (L.take n).length = n := by rw [List.length_take]; omega
  have HMK : Hid (∀ W, Hid (InvS w3 w.heap.size c g u W) → Calls Tryd.prog 11 #[.slice (some ⟨b, off, none⟩) n cap, .agg #[.string (str c), .string (str g), .int .i64 u]] W fun e W' => ∃ (E : Int) (t : List UInt8), e = .returned (.tuple #[.string (str t), .int .i64 E]) ∧ Hid ((E, t) = mkT (L.take n) ⟨c, g, u⟩) ∧ Hid (InvS w3 w.heap.size c g u W')) := by
    intro W h
    have hBW : Below w.heap.size w W := HB3.out.trans (h.out.1.mono HB3.out.size)
    have hm := make_core (some ⟨b, off, none⟩) cap (L.take n) c g u W ((HS3.out.below h.out.1 (Nat.le_refl _)).take n) (HT.out.below hBW HT.out.big) (by rw [htl]; omega) (by omega) (by omega) hu0 hu1
    rw [htl] at hm
    refine hm.mono ?_
    rintro e W' ⟨E, t, rfl, h1, h2⟩
    exact ⟨E, t, rfl, h1, h.out.next h2.out⟩
  have p1 : (I : Int) + 1 = (n : Int) := by omega
  have p2 : ¬ cap = 0 := by omega
  have p3 : n ≤ cap := by omega
  have p4 : (n : Int) ≤ (cap : Int) := by omega
  have p5 : IntKind.i64.wrap (n : Int) = (n : Int) := by rw [IntKind.wrap_i64]; omega
  have p6 : 0 ≤ (n : Int) := by omega
  have HN := hide hn
  clear htl hn
  have HI4 : Hid (InvS w3 w.heap.size c g u w3.drew) := ⟨(Below.refl _ _).drew, HC3.out.below (Below.refl w3.heap.size w3).drew (Nat.le_refl _)⟩
  have e0 : str [] = (⟨#[]⟩ : ByteArray) := rfl
  go_wp2
  go_region_with (go_at_call 11; refine (HMK.out _ (by assumption)).mono ?_; rintro e w5 ⟨E, t, rfl, hE, hI5⟩)
  all_goals
    clear HMK HI4 k0 k1 k2
    rw [HN.out] at hE
    have HS5 := hide (HS3.out.below hI5.out.1 (Nat.le_refl _))
    have HB5 : Hid (Below w.heap.size w w5) := HB3.out.trans (hI5.out.1.mono HB3.out.size)
    clear hI5 HS3 HB3 HC3
    by_cases hE0 : E = 0
    · subst hE0
      have hm := hE.out.symm
      have hcl := (mk_ok hm).2.1
      have htok : t = tok k ⟨c, g, u⟩ := by rw [(mk_ok hm).2.2, last_take L I k HKK.out]
      have htl : t.length ≤ 400 := by rw [htok]; exact tok_len _ _ hcl
      obtain ⟨R, hR⟩ : ∃ R : Int × Cl, (if u ≤ now then ((101 : Int), Cl.zero) else (0, ⟨c, g, u⟩)) = R := ⟨_, rfl⟩
      have HR1 : Hid (rdT L now t = R) := by show _ = _; rw [htok, rd_mk L I k ⟨c, g, u⟩ now HCK.out HKK.out hcl]; exact hR
      have HR2 : Hid (rdT [k] now t = R) := by show _ = _; rw [htok, rd_mk [k] 0 k ⟨c, g, u⟩ now (ok_one HCK.out HKK.out) rfl hcl]; exact hR
      have HR3 : Hid (rdT (L.eraseIdx I) now t = (100, Cl.zero)) := by show _ = _; rw [htok]; exact rd_gone ⟨c, g, u⟩ now HCK.out (by omega) HKK.out hcl
      clear hm hcl htok hE hR
      obtain ⟨RE, Rc, Rg, Ru⟩ := R
      go_wp2_with fail
      refine (read_any (some ⟨b, off, none⟩) cap L now t w5 HS5.out (HT.out.below HB5.out HT.out.big) (by omega) hcap (by unfold maxLen; omega) (by omega)).mono ?_
      rintro e w6 ⟨E1, c1, g1, u1, rfl, hE1, hb6⟩
      rw [HR1.out] at hE1
      have h1 := Prod.mk.inj hE1.out
      have h2 := h1.2
      simp only [Cl.mk.injEq] at h2
      obtain ⟨rfl, rfl, rfl⟩ := h2
      obtain rfl := h1.1
      have HX7 := hide (ClC.new w6 c1 g1 u1)
      have HB7 : Hid (Below w.heap.size w (w6.alloc (.cells #[.string (str c1), .string (str g1), .int .i64 u1] 24))) := (HB5.out.trans (hb6.out.mono HB5.out.size)).alloc (Nat.le_trans HB5.out.size hb6.out.size) _
      have HS7 : Hid (SecR (w6.alloc (.cells #[.string (str c1), .string (str g1), .int .i64 u1] 24)) (some ⟨b, off, none⟩) L) := (HS5.out.below hb6.out (Nat.le_refl _)).below ((Below.refl w6.heap.size w6).alloc (Nat.le_refl _) _) (Nat.le_refl _)
      have s1 : ∀ wx, (Instr.slice 22 (.slice (some ⟨b, off, none⟩) L.length cap) (some (.int .i64 (I : Int))) (some (.int .i64 (n : Int))) none).run Tryd.prog wx = .ok (.slice (some ⟨b, off + I * 2, none⟩) 1 (cap - I)) wx := by
        intro wx
        have := cutS_at b off L.length cap I n (by have := HN.out; omega) (by omega) (by omega) wx
        rw [show n - I = 1 by have := HN.out; omega] at this
        exact this
      clear hE1 h1 hb6 HS5 HB5
      go_wp2_with fail
      generalize w6.alloc (.cells #[.string (str c1), .string (str g1), .int .i64 u1] 24) = w7 at *
      generalize w6.heap.size = X1 at *
      refine (read_any (some ⟨b, off + I * 2, none⟩) (cap - I) [k] now t w7 (HS7.out.one HKK.out) (HT.out.below HB7.out HT.out.big) (by simp) (by simp; omega) (by unfold maxLen; omega) (by omega)).mono ?_
      rintro e w8 ⟨E2, c2, g2, u2, rfl, hE2, hb8⟩
      rw [HR2.out] at hE2
      have h1 := Prod.mk.inj hE2.out
      have h2 := h1.2
      simp only [Cl.mk.injEq] at h2
      obtain ⟨rfl, rfl, rfl⟩ := h2
      obtain rfl := h1.1
      have HX8 := hide (HX7.out.below hb8.out (Nat.le_refl _))
      have HX9 := hide (HX8.out.below ((Below.refl w8.heap.size w8).alloc (Nat.le_refl _) (.cells #[.string (str c2), .string (str g2), .int .i64 u2] 24)) (Nat.le_refl _))
      have HY9 := hide (ClC.new w8 c2 g2 u2)
      have HB9 : Hid (Below w.heap.size w (w8.alloc (.cells #[.string (str c2), .string (str g2), .int .i64 u2] 24))) := (HB7.out.trans (hb8.out.mono HB7.out.size)).alloc (Nat.le_trans HB7.out.size hb8.out.size) _
      have HS9 : Hid (SecR (w8.alloc (.cells #[.string (str c2), .string (str g2), .int .i64 u2] 24)) (some ⟨b, off, none⟩) L) := (HS7.out.below hb8.out (Nat.le_refl _)).below ((Below.refl w8.heap.size w8).alloc (Nat.le_refl _) _) (Nat.le_refl _)
      clear hE2 h1 hb8 HS7 HB7 HX7 HX8
      go_wp2_with fail
      generalize w8.alloc (.cells #[.string (str c2), .string (str g2), .int .i64 u2] 24) = w9 at *
      generalize w8.heap.size = X2 at *
      obtain ⟨l, hlm, hlc, hlb⟩ := HS9.out.list
      have hll : l.length = L.length := by rw [← hlm]; simp
      have hcl2 := cloneS_any b off cap l w9 hlc (by omega) (by omega)
      rw [hll] at hcl2
      refine hcl2.mono ?_
      rintro e w10 ⟨gg, gc, rfl, HO10, hb10⟩
      have HX10 := hide (HX9.out.below hb10.out (Nat.le_refl _))
      have HY10 := hide (HY9.out.below hb10.out (Nat.le_refl _))
      have HB10 : Hid (Below w.heap.size w w10) := HB9.out.trans (hb10.out.mono HB9.out.size)
      have hgg := HO10.out.lt gg rfl
      have HLB : Hid (∀ t ∈ l, Bs w10 t.2.1 t.2.2 t.1.2) := fun t ht => (hlb t ht).below hb10.out (Nat.le_refl _)
      have HGS : Hid (∀ t ∈ l, t.1.2 ≠ [] → blk t.2.1 ≠ some gg) := by
        intro t ht hne e
        obtain ⟨bb, oo, ea, hce⟩ := (hlb t ht).row hne
        have h3 := World.block_lt_of_cell? w9 _ (hce 0 (List.length_pos_iff.2 hne))
        rw [ea] at e
        have : bb = gg := by simpa [blk] using e
        have h4 := hgg.1
        simp only at h3
        omega
      have HINT : Hid (∀ t ∈ l, -9223372036854775808 ≤ t.1.1 ∧ t.1.1 ≤ 9223372036854775807) := fun t ht => HS9.out.int t.1 (by rw [← hlm]; exact List.mem_map_of_mem ht)
      have HX1L : Hid (X1 < w9.heap.size) := HX9.out.lt
      have HX2L : Hid (X2 < w9.heap.size) := HY9.out.lt
      have HW9 : Hid (w9.heap.size ≤ gg) := hgg.1
      have HWB : Hid (w.heap.size ≤ w9.heap.size) := HB9.out.size
      clear hcl2 hb10 HX9 HY9 HB9 HS9 hlc hlb hgg
      have HDE : Hid (Calls Tryd.prog 23 #[.slice (some ⟨gg, 0, none⟩) L.length gc, .int .i64 (I : Int), .int .i64 (n : Int)] w10 fun e w' => e = .returned (.slice (some ⟨gg, 0, none⟩) (L.length - 1) gc) ∧ Hid (w10.grownBy w' (some gg)) ∧ Hid (SecR w' (some ⟨gg, 0, none⟩) (L.eraseIdx I))) := by
        have hd := deleteS_any gg gc l I w9.heap.size w10 HO10.out (by omega) (by omega)
        rw [hll, p1] at hd
        refine hd.mono ?_
        rintro e w' ⟨rfl, hgr, hcc⟩
        refine ⟨rfl, hgr, ?_⟩
        have hmem : ∀ t ∈ l.eraseIdx I, t ∈ l := fun t ht => List.mem_of_mem_eraseIdx ht
        have := secR_of_ses hcc.out (fun t ht => by
          by_cases hne : t.1.2 = []
          · have hb := HLB.out t (hmem t ht)
            rw [hne] at hb ⊢
            exact ⟨fun h => absurd rfl h, hb.le, hb.most, hb.nz⟩
          · exact (HLB.out t (hmem t ht)).grown hgr.out (.inr (HGS.out t (hmem t ht) hne))) (fun t ht => HINT.out t (hmem t ht))
        rw [erase_map, hlm] at this
        exact this
      have hgcap : L.length ≤ gc ∧ gc ≤ maxLen := by
        rcases HO10.out.cases with ⟨e, _⟩ | ⟨_, _, _, _, _, h4, h5, _⟩
        · cases e
        · exact ⟨by omega, h5⟩
      clear HO10 HLB HGS HINT hlm hll
      go_wp2_with fail
      refine HDE.out.mono ?_
      rintro e w11 ⟨rfl, hg11, HS11⟩
      have HX11 : Hid (ClC w11 X1 c2 g2 u2) := ⟨by rw [World.cell?_of_block (hg11.out.block X1 HX10.out.lt (fun e => by have := Option.some.inj e; have := HX1L.out; have := HW9.out; omega))]; exact HX10.out.1, by rw [World.cell?_of_block (hg11.out.block X1 HX10.out.lt (fun e => by have := Option.some.inj e; have := HX1L.out; have := HW9.out; omega))]; exact HX10.out.2.1, by rw [World.cell?_of_block (hg11.out.block X1 HX10.out.lt (fun e => by have := Option.some.inj e; have := HX1L.out; have := HW9.out; omega))]; exact HX10.out.2.2⟩
      have HY11 : Hid (ClC w11 X2 c2 g2 u2) := ⟨by rw [World.cell?_of_block (hg11.out.block X2 HY10.out.lt (fun e => by have := Option.some.inj e; have := HX2L.out; have := HW9.out; omega))]; exact HY10.out.1, by rw [World.cell?_of_block (hg11.out.block X2 HY10.out.lt (fun e => by have := Option.some.inj e; have := HX2L.out; have := HW9.out; omega))]; exact HY10.out.2.1, by rw [World.cell?_of_block (hg11.out.block X2 HY10.out.lt (fun e => by have := Option.some.inj e; have := HX2L.out; have := HW9.out; omega))]; exact HY10.out.2.2⟩
      have HB11 : Hid (Below w.heap.size w w11) := HB10.out.grown hg11.out HB10.out.size (fun q hq => by rw [← Option.some.inj hq]; exact Nat.le_trans HWB.out HW9.out)
      have hel : (L.eraseIdx I).length = L.length - 1 := List.length_eraseIdx_of_lt hIl
      have HRD : Hid (Calls Tryd.prog 18 #[.slice (some ⟨gg, 0, none⟩) (L.length - 1) gc, .int .i64 now, .string (str t)] w11 fun e w' => e = .returned (.tuple #[.agg #[.string ⟨#[]⟩, .string ⟨#[]⟩, .int .i64 0], .int .i64 100]) ∧ Hid (Below w11.heap.size w11 w')) := by
        have hr := read_any (some ⟨gg, 0, none⟩) gc (L.eraseIdx I) now t w11 HS11.out (HT.out.below HB11.out HT.out.big) (by omega) (by omega) hgcap.2 (by omega)
        rw [hel] at hr
        refine hr.mono ?_
        rintro e w' ⟨E3, c3, g3, u3, rfl, hE3, hb⟩
        rw [HR3.out] at hE3
        have h1 := Prod.mk.inj hE3.out
        have h2 := h1.2
        simp only [Cl.zero, Cl.mk.injEq] at h2
        obtain ⟨rfl, rfl, rfl⟩ := h2
        obtain rfl := h1.1
        exact ⟨rfl, hb⟩
      clear hg11 HX10 HY10 HB10 HDE HS11 hel hgcap
      go_wp2_with fail
      refine HRD.out.mono ?_
      rintro e w12 ⟨rfl, hb12⟩
      have HX12 := hide (HX11.out.below hb12.out (Nat.le_refl _))
      have HY12 := hide (HY11.out.below hb12.out (Nat.le_refl _))
      have HB12 : Hid (Below w.heap.size w w12) := HB11.out.trans (hb12.out.mono HB11.out.size)
      have HB13 : Hid (∀ o, Hid (Below w.heap.size w (w12.alloc o))) := fun o => HB12.out.alloc HB12.out.size o
      clear hb12 HX11 HY11 HB11 HRD
      obtain ⟨x0, x1, x2⟩ := HX12.out
      obtain ⟨y0, y1, y2⟩ := HY12.out
      have hx := HX12.out.lt
      have hy := HY12.out.lt
      have hEE : (E2 == E2) = true := by simp
      go_wp2_with (go_at_call 10; refine (HAW.out _ (HB13.out _)).mono ?_; rintro e w14 ⟨rfl, hb14⟩)
      go_ret
      exact ⟨rfl, hb14.out⟩
    · have hEq : (E == 0) = false := by simp [hE0]
      have hEn : (E != 0) = true := by simp [hE0]
      obtain rfl := mk_bad hE.out.symm hE0
      clear hE
      go_wp2_with (go_at_call 10; refine (HAW.out _ HB5).mono ?_; rintro e w9 ⟨rfl, hb9⟩)
      go_ret
      exact ⟨rfl, hb9.out⟩
#print axioms authtokSecrets_walk
end Go.Proofs.YthliodpihbbjfaaDoor
