/-
  authtok: THE WALKS of signed and Read.; authtok: THE WALKS of signed and Read.; authtok: THE WALK of Read.; authtok: THE WALKS of the statements' one and awake.
-/
import Derived.Test.YthhcaalafacjlaaDoorPkAetsau
import Derived.Test.YthhcaalafacjlaaDoorPkAetsav
import Derived.Lib.ConvBytes
import Derived.Lib.SlBytesConst
section
set_option linter.unusedVariables false
set_option maxRecDepth 1000000
namespace Go.Proofs.YthhcaalafacjlaaDoor
open Go.RowKit

theorem fi_some : ∀ (L : List Sec) (id : Int) (i : Nat) (s : Sec), L[i]? = some s → s.1 = id → (∀ j t, j < i → L[j]? = some t → t.1 ≠ id) → L.findIdx? (fun k => k.1 == id) = some i
  | [], _, i, s, h, _, _ => by simp at h
  | t :: r, id, 0, s, h, hs, _ => by
    simp at h
    subst h
    simp [List.findIdx?_cons, hs]
  | t :: r, id, i + 1, s, h, hs, hn => by
    have h0 := hn 0 t (by omega) rfl
    have hne : (t.1 == id) = false := by simp [h0]
    rw [List.findIdx?_cons, hne, fi_some r id i s (by simpa using h) hs (fun j u hj hu => hn (j + 1) u (by omega) (by simpa using hu))]
    rfl
theorem fi_none (L : List Sec) (id : Int) (h : ∀ (j : Nat) (t : Sec), L[j]? = some t → t.1 ≠ id) : L.findIdx? (fun k => k.1 == id) = none := by
  rw [List.findIdx?_eq_none_iff]
  intro x hx
  obtain ⟨j, hj⟩ := List.getElem?_of_mem hx
  have := h j x hj
  simp [this]

set_option maxHeartbeats 1000000 in
theorem sid_any (B : Nat) (k id : Int) (x : Option Addr) (n c : Nat) (w : World) (h : w.cell? ⟨B, 0, none⟩ = some (.int .i64 id)) :
    Calls Tryd.prog 52 #[.agg #[.int .i64 k, .slice x n c], .pointer (some ⟨B, 0, none⟩)] w fun e w' => e = .returned (.bool (k == id)) ∧ Hid (Below w.heap.size w w') := by
  have hlt : B < w.heap.size := World.block_lt_of_cell? w _ h
  have hne : B ≠ w.heap.size := by omega
  go_enter Tryd.func52, Tryd.ntmps52
  go_wp2
  go_ret
  exact ⟨rfl, (Below.refl _ _).alloc (Nat.le_refl _) _⟩

set_option maxHeartbeats 4000000 in
theorem index_any (p : Option Addr) (cp : Nat) (L : List Sec) (B : Nat) (id : Int) (w : World) (h : SecR w p L) (hl : L.length ≤ 140737488355328) (hB : w.cell? ⟨B, 0, none⟩ = some (.int .i64 id)) :
    Calls Tryd.prog 51 #[.slice p L.length cp, .func (.func 52) #[] #[.pointer (some ⟨B, 0, none⟩)]] w fun e w' => ∃ r : Int, e = .returned (.int .i64 r) ∧ Hid (Below w.heap.size w w') ∧ ((r = -1 ∧ Hid (L.findIdx? (fun k => k.1 == id) = none)) ∨ ∃ i : Nat, r = (i : Int) ∧ i < L.length ∧ Hid (L.findIdx? (fun k => k.1 == id) = some i)) := by
  have HS := hide h
  have HB := hide hB
  clear h hB
  go_enter Tryd.func51, Tryd.ntmps51
  go_wp2
  go_loopw [8] (fun v wr => ∃ i : Nat, i ≤ L.length ∧ v = .int .i64 (i : Int) ∧ Hid (∀ j t, j < i → L[j]? = some t → t.1 ≠ id) ∧ Hid (Below w.heap.size w wr)) (fun v _ => L.length - (intOf v).toNat)
  case atStart => exact ⟨0, Nat.zero_le _, rfl, (fun j t hj => by omega), Below.refl _ _⟩
  case round =>
    obtain ⟨i, hi, rfl, hno, hb⟩ := hrel
    by_cases hlt : i < L.length
    · obtain ⟨s, hs⟩ : ∃ s, L[i]? = some s := ⟨_, List.getElem?_eq_getElem hlt⟩
      obtain ⟨b, off, x, cx, rfl, c0, c1, hBs, hbl⟩ := (HS.out.below hb.out (Nat.le_refl _)).at hs
      have HSS := hide hs
      have HBr : Hid (wr.cell? ⟨B, 0, none⟩ = some (.int .i64 id)) := by
        show _ = _
        rw [hb.out.cell (World.block_lt_of_cell? w _ HB.out)]
        exact HB.out
      have hi2 : (i : Int) < (L.length : Int) := by omega
      obtain ⟨k, bt⟩ := s
      simp only at c0 c1
      clear hs hBs
      by_cases hk : k = id
      · have HF : Hid (L.findIdx? (fun k => k.1 == id) = some i) := fi_some L id i (k, bt) HSS.out hk hno.out
        have hkb : (k == id) = true := by simp [hk]
        have HKB := hide hkb
        clear hk hkb
        go_wp2_with (go_at_call 52; refine (sid_any B k id x bt.length cx wr HBr.out).mono ?_; rintro e w2 ⟨rfl, hb2⟩; rw [HKB.out])
        go_ret
        exact ⟨(i : Int), rfl, hb.out.trans (hb2.out.mono hb.out.size), .inr ⟨i, rfl, hlt, HF⟩⟩
      · have hkb : (k == id) = false := by simp [hk]
        have HKB := hide hkb
        have HK := hide hk
        clear hk hkb
        go_wp2_with (go_at_call 52; refine (sid_any B k id x bt.length cx wr HBr.out).mono ?_; rintro e w2 ⟨rfl, hb2⟩; rw [HKB.out])
        go_roundw
        case rel =>
          refine ⟨i + 1, by omega, by go_num, ?_, hb.out.trans (hb2.out.mono hb.out.size)⟩
          intro j t hj ht
          rcases Nat.lt_or_ge j i with h | h
          · exact hno.out j t h ht
          · obtain rfl : j = i := by omega
            rw [HSS.out] at ht
            rw [← Option.some.inj ht]
            exact HK.out
        case measure => simp [intOf]; omega
    · obtain rfl : i = L.length := by omega
      have HF : Hid (L.findIdx? (fun k => k.1 == id) = none) := fi_none L id (fun j t ht => hno.out j t (List.getElem?_eq_some_iff.1 ht).1 ht)
      go_wp2
      go_ret
      exact ⟨-1, rfl, hb, .inl ⟨rfl, HF⟩⟩
#print axioms index_any
end Go.Proofs.YthhcaalafacjlaaDoor
end
section
set_option linter.unusedVariables false
set_option maxRecDepth 1000000
namespace Go.Proofs.YthhcaalafacjlaaDoor
open Go.RowKit

/-- A text's bytes in a new block: the world behind, the new row's capacity. -/
theorem to_bytes : ∃ (V : List UInt8 → World → World) (G : List UInt8 → World → Nat), (∀ l wx, (convert 9 40 (.string (str l))).run Tryd.prog wx = .ok (.slice (some ⟨wx.heap.size, 0, none⟩) l.length (G l wx)) (V l wx)) ∧ (∀ l wx, Below wx.heap.size wx (V l wx)) ∧ (∀ l wx, Row (V l wx) (some ⟨wx.heap.size, 0, none⟩) l) := by
  refine ⟨fun l wx => Lib.bytesWorld wx 5 (str l), fun l wx => grownCap wx (str l).size 0 5, fun l wx => ?_, fun l wx => ?_, fun l wx => ?_⟩
  · have := Lib.run_convert_string_bytes (P := Tryd.prog) wx 9 40 5 (str l) Tryd.underlying9 Tryd.underlying40 Tryd.underlying5
    rw [this, str_size]
    show _ = Result.ok (Value.slice _ _ (grownCap wx (str l).size 0 5)) _
    rw [str_size]
  · show Below wx.heap.size wx (Lib.bytesWorld wx 5 (str l))
    exact ⟨rfl, rfl, rfl, by rw [Lib.bytesWorld_size]; omega, fun k hk => Lib.bytesWorld_at_old wx _ _ k hk⟩
  · intro hne
    refine ⟨wx.heap.size, 0, rfl, fun i hi => ?_⟩
    rw [Nat.zero_add, Lib.bytesWorld_cell wx _ (str l) i (by rw [str_size]; exact hi)]
    rfl

theorem Tryd.sizeS (w : World) : (sizeOf (Tryd.prog.elem 22)).run Tryd.prog w = .ok 2 w := by kernel_rfl
theorem Tryd.elemS : Tryd.prog.underlying 22 = some (.slice (Tryd.prog.elem 22)) := by kernel_rfl
theorem cut_secs (b off n cap H : Nat) (h : Int) (w : World) (hh : h = (H : Int)) (h2 : H ≤ cap) :
    (Instr.slice 22 (.slice (some ⟨b, off, none⟩) n cap) none (some (.int .i64 h)) none).run Tryd.prog w = .ok (.slice (some ⟨b, off, none⟩) H cap) w := by
  subst hh
  rw [run_slice_h (P := Tryd.prog) w 22 _ n cap Tryd.elemS .i64 (H : Int) (by omega) (by omega), Tryd.sizeS]
  simp [Result.andThen, sliced, Int.toNat_natCast]
  intro _
  exact addr_add b off 0
theorem pay_len (id : Int) (x : Cl) : (pay id x).length ≤ 40 + x.c.length + x.g.length := by
  unfold pay
  simp only [List.length_append]
  have := form_len id.toNat
  have := form_len x.c.length
  have := form_len x.g.length
  have := form_len x.u.toNat
  omega
theorem mk_len (L : List Sec) (x : Cl) (hc : x.c.length ≤ 100000) (hg : x.g.length ≤ 100000) : (mkT L x).2.length ≤ 400000 := by
  unfold mkT
  split
  · simp
  · split
    · simp
    · simp only [tok, List.length_append, List.length_cons, sp_length, mac_length]
      have := pay_len (lastS L).1 x
      omega
/-- What stays while a token is made again. -/
def InvS (w : World) (Z : Nat) (c g : List UInt8) (u : Int) (W : World) : Prop := Below w.heap.size w W ∧ ClC W Z c g u
theorem InvS.next {w W W' : World} {Z : Nat} {c g : List UInt8} {u : Int} (h : InvS w Z c g u W) (hb : Below W.heap.size W W') : InvS w Z c g u W' := ⟨h.1.trans (hb.mono h.1.size), h.2.below hb (Nat.le_refl _)⟩

set_option maxHeartbeats 8000000 in
theorem signed_any (p : Option Addr) (cp : Nat) (L : List Sec) (id : Int) (c g : List UInt8) (u : Int) (s : List UInt8) (w : World) (h : SecR w p L) (hT : Tb w) (hl : L.length ≤ 140737488355328) (hcp : L.length ≤ cp) (hcm : cp ≤ maxLen) (hc : c.length ≤ 100000) (hg : g.length ≤ 100000) (hu0 : -9223372036854775808 ≤ u) (hu1 : u ≤ 9223372036854775807) (hsl : s.length ≤ 100000) :
    Calls Tryd.prog 31 #[.slice p L.length cp, .int .i64 id, .agg #[.string (str c), .string (str g), .int .i64 u], .string (str s)] w fun e w' => e = .returned (.bool (sgn L id ⟨c, g, u⟩ s)) ∧ Hid (Below w.heap.size w w') := by
  obtain ⟨b, hb⟩ : ∃ b, sgn L id ⟨c, g, u⟩ s = b := ⟨_, rfl⟩
  have HSG := hide hb
  rw [hb]
  clear hb
  have HS := hide h
  have HT := hide hT
  clear h hT
  unfold maxLen at hcm
  go_enter Tryd.func31, Tryd.ntmps31
  go_wp2_with fail
  have HI1 : Hid (InvS w (w.heap.size + 1) c g u ((w.alloc (.cells #[.int .i64 id] 3)).alloc (.cells #[.string (str c), .string (str g), .int .i64 u] 24))) :=
    ⟨((Below.refl _ _).alloc (Nat.le_refl _) _).alloc (by simp) _, by have := ClC.new (w.alloc (.cells #[.int .i64 id] 3)) c g u; simpa using this⟩
  have HX1 : Hid (((w.alloc (.cells #[.int .i64 id] 3)).alloc (.cells #[.string (str c), .string (str g), .int .i64 u] 24)).cell? ⟨w.heap.size, 0, none⟩ = some (.int .i64 id)) := by show _ = _; simp
  generalize (w.alloc (.cells #[.int .i64 id] 3)).alloc (.cells #[.string (str c), .string (str g), .int .i64 u] 24) = w1 at *
  refine (index_any p cp L w.heap.size id w1 (HS.out.below HI1.out.1 (Nat.le_refl _)) hl HX1.out).mono ?_
  rintro e w2 ⟨r, rfl, hb2, hr⟩
  have HI2 := hide (HI1.out.next hb2.out)
  clear HI1 HX1 hb2
  generalize w.heap.size + 1 = Z at *
  rcases hr with ⟨rfl, hf⟩ | ⟨i, rfl, hil, hf⟩
  · obtain rfl : b = false := by rw [← HSG.out]; unfold sgn; rw [hf.out]
    go_wp2
    go_ret
    exact ⟨rfl, HI2.out.1⟩
  · obtain ⟨k, hk⟩ : ∃ k, L[i]? = some k := ⟨_, List.getElem?_eq_getElem hil⟩
    obtain ⟨bb, off, x, cx, rfl, -, -, -, -⟩ := (HS.out.below HI2.out.1 (Nat.le_refl _)).at hk
    clear hk
    obtain ⟨n, hn⟩ : ∃ n, n = i + 1 := ⟨_, rfl⟩
    have htl : (L.take n).length = n := by rw [List.length_take]; omega
    have HMK : Hid (∀ W, Hid (InvS w Z c g u W) → Calls Tryd.prog 8 #[.slice (some ⟨bb, off, none⟩) n cp, .agg #[.string (str c), .string (str g), .int .i64 u]] W fun e W' => ∃ (E : Int) (t : List UInt8), e = .returned (.tuple #[.string (str t), .int .i64 E]) ∧ Hid ((E, t) = mkT (L.take n) ⟨c, g, u⟩) ∧ Hid (InvS w Z c g u W')) := by
      intro W h
      have hm := make_core (some ⟨bb, off, none⟩) cp (L.take n) c g u W ((HS.out.below h.out.1 (Nat.le_refl _)).take n) (HT.out.below h.out.1 HT.out.big) (by rw [htl]; omega) hc hg hu0 hu1
      rw [htl] at hm
      refine hm.mono ?_
      rintro e W' ⟨E, t, rfl, h1, h2⟩
      exact ⟨E, t, rfl, h1, h.out.next h2.out⟩
    have HF : Hid (b = (decide ((mkT (L.take n) ⟨c, g, u⟩).1 = 0) && decide ((mkT (L.take n) ⟨c, g, u⟩).2 = s))) := by
      show _ = _
      rw [← HSG.out, hn]
      unfold sgn
      rw [hf.out]
    have q1 : (i : Int) + 1 = (n : Int) := by omega
    have q2 : ¬ cp = 0 := by omega
    have q3 : n ≤ cp := by omega
    have q4 : (n : Int) ≤ (cp : Int) := by omega
    have q5 : IntKind.i64.wrap (n : Int) = (n : Int) := by
      have hn2 : n ≤ 140737488355328 := by omega
      simp only [IntKind.wrap, IntKind.bits, IntKind.signed]
      simp
      omega
    have q6 : 0 ≤ (n : Int) := by omega
    clear HSG hf htl hn
    obtain ⟨k0, k1, k2⟩ := HI2.out.2
    have HI2' : Hid (InvS w Z c g u w2.drew) := HI2.out.next (Below.refl _ _).drew
    go_wp2
    go_region_with (go_at_call 8; refine (HMK.out _ (by assumption)).mono ?_; rintro e w3 ⟨E, t, rfl, hE, hI3⟩)
    all_goals
      have hmk := mk_len (L.take n) ⟨c, g, u⟩ hc hg
      rw [← hE.out] at hmk
      simp only at hmk
      have HF2 : Hid (b = (decide (E = 0) && decide (t = s))) := by show _ = _; rw [HF.out, ← hE.out]
      clear hE HF
      by_cases hE0 : E = 0
      · subst hE0
        obtain rfl : b = (t == s) := by rw [HF2.out]; by_cases h : t = s <;> simp [h]
        obtain ⟨V, G, hV, hVb, hVr⟩ := to_bytes
        have v1 := fun wx => hV t wx
        have v2 := fun wx => hV s wx
        have HVB := hide hVb
        have HVR := hide hVr
        clear hV hVb hVr HF2 HMK
        go_wp2_with (go_at_call 53; refine (same_any (some ⟨w3.heap.size, 0, none⟩) _ t (some ⟨(V t w3).heap.size, 0, none⟩) _ s t.length s.length _ ((HVR.out t w3).below (HVB.out s (V t w3)) (Nat.le_refl _)) (HVR.out s (V t w3)) rfl rfl (by omega) (by omega)).mono ?_; rintro e w5 ⟨rfl, hb5⟩)
        go_ret
        exact ⟨rfl, (hI3.out.next ((HVB.out t w3).trans (((HVB.out s (V t w3)).trans (hb5.mono (HVB.out s (V t w3)).size)).mono (HVB.out t w3).size))).1⟩
      · obtain rfl : b = false := by rw [HF2.out, decide_eq_false hE0]; rfl
        have hEq : (E == 0) = false := by simp [hE0]
        go_wp2
        go_ret
        exact ⟨rfl, hI3.out.1⟩
#print axioms signed_any
end Go.Proofs.YthhcaalafacjlaaDoor
end
section
set_option linter.unusedVariables false
set_option maxRecDepth 1000000
namespace Go.Proofs.YthhcaalafacjlaaDoor
open Go.RowKit

theorem Clz.facts {w : World} {R : Nat} (h : Clz w R) : (w.cell? ⟨R, 0, none⟩ = some (.string ⟨#[]⟩) ∧ w.cell? ⟨R, 1, none⟩ = some (.string ⟨#[]⟩) ∧ w.cell? ⟨R, 2, none⟩ = some (.int .i64 0)) ∧ w.frozen? ⟨R, 0, none⟩ = false ∧ w.frozen? ⟨R, 1, none⟩ = false ∧ w.frozen? ⟨R, 2, none⟩ = false :=
  ⟨⟨by rw [cell_of_row w R 0 _ _ _ h]; rfl, by rw [cell_of_row w R 1 _ _ _ h]; rfl, by rw [cell_of_row w R 2 _ _ _ h]; rfl⟩, frozen_of_row w R 0 _ _ h, frozen_of_row w R 1 _ _ h, frozen_of_row w R 2 _ _ h⟩
theorem below_set3 {B : Nat} {w0 v : World} {R : Nat} (h : Below B w0 v) (hB : B ≤ w0.heap.size) (hR : B ≤ R) (x y z : Value) : Below B w0 (((v.setCell ⟨R, 0, none⟩ x).setCell ⟨R, 1, none⟩ y).setCell ⟨R, 2, none⟩ z) := by
  have st : ∀ (v : World) (p : Addr) (x : Value), Below B w0 v → B ≤ p.block → Below B w0 (v.setCell p x) := fun v p x h hp => h.grown (grownBy_set v p x) (Nat.le_trans hB h.size) (fun k hk => by rw [← Option.some.inj hk]; exact hp)
  exact st _ _ _ (st _ _ _ (st _ _ _ h hR) hR) hR

set_option maxHeartbeats 8000000 in
theorem read_any (p : Option Addr) (cp : Nat) (L : List Sec) (now : Int) (s : List UInt8) (w : World) (h : SecR w p L) (hT : Tb w) (hl : L.length ≤ 140737488355328) (hcp : L.length ≤ cp) (hcm : cp ≤ maxLen) (hsl : s.length ≤ 100000) :
    Calls Tryd.prog 15 #[.slice p L.length cp, .int .i64 now, .string (str s)] w fun e w' => ∃ (E : Int) (c g : List UInt8) (u : Int), e = .returned (.tuple #[.agg #[.string (str c), .string (str g), .int .i64 u], .int .i64 E]) ∧ Hid ((E, (⟨c, g, u⟩ : Cl)) = rdT L now s) ∧ Hid (Below w.heap.size w w') := by
  have HS := hide h
  have HT := hide hT
  clear h hT
  go_enter Tryd.func15, Tryd.ntmps15
  go_wp2_with fail
  have HR1 : Hid (Clz (w.alloc (.cells #[.string ⟨#[]⟩, .string ⟨#[]⟩, .int .i64 0] 24)) w.heap.size) := heap_alloc_new w _
  have HB1 : Hid (Below w.heap.size w (w.alloc (.cells #[.string ⟨#[]⟩, .string ⟨#[]⟩, .int .i64 0] 24))) := (Below.refl _ _).alloc (Nat.le_refl _) _
  generalize w.alloc (.cells #[.string ⟨#[]⟩, .string ⟨#[]⟩, .int .i64 0] 24) = w1 at *
  refine (check_any p cp L L.length w1 rfl (HS.out.below HB1.out (Nat.le_refl _)) hl).mono ?_
  rintro e w2 ⟨rfl, hb2⟩
  have HR2 := hide (HR1.out.below hb2 (Nat.le_refl _))
  have HB2 : Hid (Below w.heap.size w w2) := HB1.out.trans (hb2.mono HB1.out.size)
  clear hb2 HR1 HB1
  cases hck : ckOk L with
  | false =>
    have HM : Hid (((102 : Int), Cl.zero) = rdT L now s) := by show _ = _; unfold rdT; rw [if_pos hck]
    obtain ⟨⟨b0, b1, b2⟩, f0, f1, f2⟩ := HR2.out.facts
    have HB3 := fun x y z => hide (below_set3 HB2.out (Nat.le_refl _) (Nat.le_refl _) x y z)
    go_wp2
    refine bodyPost_ret (v := .tuple #[.agg #[.string ⟨#[]⟩, .string ⟨#[]⟩, .int .i64 0], .int .i64 102]) (by simp [results, Tryd.results15, go_sem, b0, b1, b2]) rfl ⟨102, [], [], 0, rfl, HM, HB3 _ _ _⟩
  | true =>
  have HCK := hide hck
  clear hck
  go_wp2_with fail
  refine (said_any s w2 hsl).mono ?_
  rintro e w3 ⟨id, c, g, u, rfl, HSAY, hb3, hc, hg, hid, hu⟩
  have HR3 := hide (HR2.out.below hb3.out (Nat.le_refl _))
  have HB3 : Hid (Below w.heap.size w w3) := HB2.out.trans (hb3.out.mono HB2.out.size)
  clear hb3 HR2 HB2
  go_wp2_with fail
  have HC4 := hide (ClC.new w3 c g (u : Int))
  have HR4 : Hid (Clz (w3.alloc (.cells #[.string (str c), .string (str g), .int .i64 (u : Int)] 24)) w.heap.size) := HR3.out.below ((Below.refl w3.heap.size w3).alloc (Nat.le_refl _) _) (Nat.le_refl _)
  have HB4 : Hid (Below w.heap.size w (w3.alloc (.cells #[.string (str c), .string (str g), .int .i64 (u : Int)] 24))) := HB3.out.alloc HB3.out.size _
  have HX : Hid (w.heap.size < w3.heap.size) := HR3.out.lt
  generalize w3.alloc (.cells #[.string (str c), .string (str g), .int .i64 (u : Int)] 24) = w4 at *
  generalize w3.heap.size = X at *
  clear HR3 HB3
  refine (signed_any p cp L (id : Int) c g (u : Int) s w4 (HS.out.below HB4.out (Nat.le_refl _)) (HT.out.below HB4.out HT.out.big) hl hcp hcm (by omega) (by omega) (by omega) (by omega) hsl).mono ?_
  rintro e w5 ⟨rfl, hb5⟩
  have HR5 := hide (HR4.out.below hb5.out (Nat.le_refl _))
  have HC5 := hide (HC4.out.below hb5.out (Nat.le_refl _))
  have HB5 : Hid (Below w.heap.size w w5) := HB4.out.trans (hb5.out.mono HB4.out.size)
  clear hb5 HR4 HC4 HB4
  obtain ⟨⟨b0, b1, b2⟩, f0, f1, f2⟩ := HR5.out.facts
  obtain ⟨k0, k1, k2⟩ := HC5.out
  have hne : w.heap.size ≠ X := by have := HX.out; omega
  have HB6 := fun x y z => hide (below_set3 HB5.out (Nat.le_refl _) (Nat.le_refl _) x y z)
  cases hsg : sgn L (id : Int) ⟨c, g, (u : Int)⟩ s with
  | false =>
    have HM : Hid (((100 : Int), Cl.zero) = rdT L now s) := by
      show _ = _
      unfold rdT
      rw [if_neg (by rw [HCK.out]; simp), HSAY.out, if_pos hsg]
    clear hsg
    go_wp2
    refine bodyPost_ret (v := .tuple #[.agg #[.string ⟨#[]⟩, .string ⟨#[]⟩, .int .i64 0], .int .i64 100]) (by simp [results, Tryd.results15, go_sem, b0, b1, b2]) rfl ⟨100, [], [], 0, rfl, HM, HB6 _ _ _⟩
  | true =>
    by_cases hn : (u : Int) ≤ now
    · have HM : Hid (((101 : Int), Cl.zero) = rdT L now s) := by
        show _ = _
        unfold rdT
        rw [if_neg (by rw [HCK.out]; simp), HSAY.out, if_neg (by rw [hsg]; simp), if_pos hn]
      have d1 : decide ((u : Int) ≤ now) = true := decide_eq_true hn
      clear hsg
      go_wp2
      refine bodyPost_ret (v := .tuple #[.agg #[.string ⟨#[]⟩, .string ⟨#[]⟩, .int .i64 0], .int .i64 101]) (by simp [results, Tryd.results15, go_sem, b0, b1, b2]) rfl ⟨101, [], [], 0, rfl, HM, HB6 _ _ _⟩
    · have HM : Hid (((0 : Int), (⟨c, g, (u : Int)⟩ : Cl)) = rdT L now s) := by
        show _ = _
        unfold rdT
        rw [if_neg (by rw [HCK.out]; simp), HSAY.out, if_neg (by rw [hsg]; simp), if_neg hn]
      have d1 : decide ((u : Int) ≤ now) = false := decide_eq_false hn
      clear hsg
      go_wp2
      refine bodyPost_ret (v := .tuple #[.agg #[.string (str c), .string (str g), .int .i64 (u : Int)], .int .i64 0]) (by simp [results, Tryd.results15, go_sem, b0, b1, b2]) rfl ⟨0, c, g, (u : Int), rfl, HM, HB6 _ _ _⟩
#print axioms read_any
end Go.Proofs.YthhcaalafacjlaaDoor
end
section
set_option linter.unusedVariables false
set_option maxRecDepth 1000000
namespace Go.Proofs.YthhcaalafacjlaaDoor
open Go.RowKit

def k16 : List UInt8 := List.replicate 16 107
theorem k16_bs (w : World) (o : Nat × Nat) : Bs (w.alloc (.cells (bs k16).toArray 5 o)) (some ⟨w.heap.size, 0, none⟩) 16 k16 := by
  refine ⟨fun _ => ⟨w.heap.size, 0, rfl, fun i hi => ?_⟩, Nat.le_refl _, by unfold maxLen; decide, fun h => by cases h⟩
  rw [Nat.zero_add, cell_of_row _ _ i _ _ _ (heap_alloc_new w _), ← bs_get k16 i hi]
  simp
set_option maxHeartbeats 2000000 in
theorem one_any (id : Int) (w : World) :
    Calls Tryd.prog 20 #[.int .i64 id] w fun e w' => ∃ a, e = .returned (.agg #[.int .i64 id, .slice a 16 16]) ∧ Hid (Bs w' a 16 k16) ∧ Hid (Below w.heap.size w w') := by
  have kc : ∀ (C : Array Value), (convert 40 40 (.slice (some ⟨w.heap.size + 1, 0, none⟩) 16 16)).run Tryd.prog ((w.alloc (.cells #[.int .i64 0, .slice none 0 0] 42)).alloc (.cells C 5)) = .ok (.slice (some ⟨w.heap.size + 1, 0, none⟩) 16 16) ((w.alloc (.cells #[.int .i64 0, .slice none 0 0] 42)).alloc (.cells C 5 (C.size, C.size + 1))) := by
    intro C
    have := Lib.run_convert_bytes_const (P := Tryd.prog) (w.alloc (.cells #[.int .i64 0, .slice none 0 0] 42)) 40 5 C 16 16 Tryd.underlying40 Tryd.underlying5
    rw [show (w.alloc (.cells #[.int .i64 0, .slice none 0 0] 42)).heap.size = w.heap.size + 1 by simp] at this
    exact this
  go_enter Tryd.func20, Tryd.ntmps20
  go_wp2
  refine bodyPost_ret (v := .agg #[.int .i64 id, .slice (some ⟨w.heap.size + 1, 0, none⟩) 16 16]) (by simp [results, Tryd.results20, go_sem]) rfl ⟨some ⟨w.heap.size + 1, 0, none⟩, rfl, ?_, ((Below.refl _ _).alloc (Nat.le_refl _) _).alloc (by simp) _⟩
  have := k16_bs (w.alloc (.cells #[.int .i64 id, .slice (some ⟨w.heap.size + 1, 0, none⟩) 16 16] 42)) (16, 17)
  rw [show (w.alloc (.cells #[.int .i64 id, .slice (some ⟨w.heap.size + 1, 0, none⟩) 16 16] 42)).heap.size = w.heap.size + 1 by simp] at this
  exact this

def c0 : Cl := ⟨[99, 49], [103], 1000⟩
theorem pay0 : pay 1 c0 = [1, 2, 99, 49, 1, 103, 249, 3, 232] := by decide +kernel
theorem sp_pay0 : spR (pay 1 c0) 0 0 = [65, 81, 74, 106, 77, 81, 70, 110, 45, 81, 80, 111] := by
  rw [pay0, sp3, sp3, sp3, sp0]
  decide +kernel
theorem ck0 : ckOk [((1 : Int), k16)] = true := by decide +kernel
theorem cl0 : clOk c0 = 0 := by decide +kernel
theorem mk0 : mkT [((1 : Int), k16)] c0 = (0, tok (1, k16) c0) := by
  unfold mkT
  rw [if_neg (by rw [ck0]; simp), if_neg (by rw [cl0]; simp)]
  rfl
theorem tok0 : ∃ T, tok (1, k16) c0 = T ∧ T.length = 56 ∧ T.take 13 = [65, 81, 74, 106, 77, 81, 70, 110, 45, 81, 80, 111, 46] := by
  refine ⟨_, rfl, ?_, ?_⟩
  · simp only [tok, sp_pay0, List.length_append, List.length_cons, List.length_nil, sp_length, mac_length]
  · unfold tok
    rw [sp_pay0]
    rfl

/-- A new row of one secret. -/
theorem sec1 (W : World) (a : Option Addr) (h : Bs W a 16 k16) : SecR (W.alloc (.cells #[.int .i64 1, .slice a 16 16] 42)) (some ⟨W.heap.size, 0, none⟩) [(1, k16)] := by
  refine ⟨fun _ => ⟨W.heap.size, 0, rfl, fun i s hs => ?_⟩, fun s hs => ?_⟩
  · have hi : i = 0 := by
      have := (List.getElem?_eq_some_iff.1 hs).1
      simp at this
      exact this
    subst hi
    simp at hs
    subst hs
    exact ⟨a, 16, by simp, by simp [k16], h.alloc _⟩
  · simp at hs
    subst hs
    simp

set_option maxHeartbeats 8000000 in
theorem awake_core (T : List UInt8) (hm : mkT [((1 : Int), k16)] c0 = (0, T)) (hl : T.length = 56) (ht : T.take 13 = [65, 81, 74, 106, 77, 81, 70, 110, 45, 81, 80, 111, 46]) (h1 : rdT [((1 : Int), k16)] 999 T = (0, c0)) (h2 : rdT [((1 : Int), k16)] 1000 T = (101, Cl.zero)) (w : World) (hT : Tb w) :
    Calls Tryd.prog 7 #[] w fun e w' => e = .returned (.bool true) ∧ Below w.heap.size w w' := by
  have HT := hide hT
  have HM := hide hm
  have hsz : (str T).size = 56 := by rw [str_size]; exact hl
  have HL := hide hl
  have HTK : Hid ((str T).extract 0 13 = str [65, 81, 74, 106, 77, 81, 70, 110, 45, 81, 80, 111, 46]) := by show _ = _; rw [str_take, ht]
  have H1 := hide h1
  have H2 := hide h2
  clear hT hm hl ht h1 h2
  have HO : Hid (∀ W, Hid (InvS w w.heap.size [99, 49] [103] 1000 W) → Calls Tryd.prog 20 #[.int .i64 1] W fun e W' => ∃ a, e = .returned (.agg #[.int .i64 1, .slice a 16 16]) ∧ Hid (Bs W' a 16 k16) ∧ Hid (InvS w w.heap.size [99, 49] [103] 1000 W')) := by
    intro W h
    refine (one_any 1 W).mono ?_
    rintro e W' ⟨a, rfl, h1, h2⟩
    exact ⟨a, rfl, h1, h.out.next h2.out⟩
  have HMK : Hid (∀ W a, Hid (InvS w w.heap.size [99, 49] [103] 1000 W) → Hid (Bs W a 16 k16) → Calls Tryd.prog 8 #[.slice (some ⟨W.heap.size, 0, none⟩) 1 1, .agg #[.string ⟨#[99, 49]⟩, .string ⟨#[103]⟩, .int .i64 1000]] (W.alloc (.cells #[.int .i64 1, .slice a 16 16] 42)) fun e W' => e = .returned (.tuple #[.string (str T), .int .i64 0]) ∧ Hid (InvS w w.heap.size [99, 49] [103] 1000 W')) := by
    intro W a h hB
    have hI := h.out.next ((Below.refl W.heap.size W).alloc (Nat.le_refl _) (.cells #[.int .i64 1, .slice a 16 16] 42))
    refine (make_core (some ⟨W.heap.size, 0, none⟩) 1 [(1, k16)] [99, 49] [103] 1000 _ (sec1 W a hB.out) (HT.out.below hI.1 HT.out.big) (by simp) (by simp) (by simp) (by omega) (by omega)).mono ?_
    rintro e W' ⟨E, t, rfl, hE, hb⟩
    rw [show (⟨[99, 49], [103], 1000⟩ : Cl) = c0 from rfl, HM.out] at hE
    obtain ⟨rfl, rfl⟩ := Prod.mk.inj hE.out
    exact ⟨rfl, hI.next hb.out⟩
  have HRD : Hid (∀ W a now E c g u, ((now = 999 ∧ E = 0 ∧ c = [99, 49] ∧ g = [103] ∧ u = 1000) ∨ (now = 1000 ∧ E = 101 ∧ c = [] ∧ g = [] ∧ u = 0)) → Hid (InvS w w.heap.size [99, 49] [103] 1000 W) → Hid (Bs W a 16 k16) → Calls Tryd.prog 15 #[.slice (some ⟨W.heap.size, 0, none⟩) 1 1, .int .i64 now, .string (str T)] (W.alloc (.cells #[.int .i64 1, .slice a 16 16] 42)) fun e W' => e = .returned (.tuple #[.agg #[.string (str c), .string (str g), .int .i64 u], .int .i64 E]) ∧ Hid (Below W.heap.size W W')) := by
    intro W a now E c g u hv h hB
    have hB1 := (Below.refl W.heap.size W).alloc (Nat.le_refl _) (.cells #[.int .i64 1, .slice a 16 16] 42)
    have hI := h.out.next hB1
    have hr : rdT [((1 : Int), k16)] now T = (E, ⟨c, g, u⟩) := by
      rcases hv with ⟨rfl, rfl, rfl, rfl, rfl⟩ | ⟨rfl, rfl, rfl, rfl, rfl⟩
      · exact H1.out
      · exact H2.out
    refine (read_any (some ⟨W.heap.size, 0, none⟩) 1 [(1, k16)] now T _ (sec1 W a hB.out) (HT.out.below hI.1 HT.out.big) (by simp) (by simp) (by unfold maxLen; omega) (by rw [HL.out]; omega)).mono ?_
    rintro e W' ⟨E', c', g', u', rfl, hE, hb⟩
    rw [hr] at hE
    have h1 := Prod.mk.inj hE.out
    have h2 := h1.2
    simp only [Cl.mk.injEq] at h2
    obtain ⟨rfl, rfl, rfl⟩ := h2
    obtain rfl := h1.1
    exact ⟨rfl, hB1.trans (hb.out.mono hB1.size)⟩
  have HI0 : Hid (InvS w w.heap.size [99, 49] [103] 1000 (w.alloc (.cells #[.string ⟨#[99, 49]⟩, .string ⟨#[103]⟩, .int .i64 1000] 24)).drew) :=
    InvS.next ⟨(Below.refl _ _).alloc (Nat.le_refl _) _, ClC.new w [99, 49] [103] 1000⟩ (Below.refl _ _).drew
  go_enter Tryd.func7, Tryd.ntmps7
  go_wp2
  go_region_with (first
    | (go_at_call 20; refine (HO.out _ (by assumption)).mono ?_; rintro e w3 ⟨a3, rfl, hB3, hI3⟩; obtain ⟨q0, q1, q2⟩ := hI3.out.2; have hlt3 := hI3.out.2.lt)
    | (go_at_call 8; refine (HMK.out _ _ (by assumption) (by assumption)).mono ?_; rintro e w4 ⟨rfl, hI4⟩))
  all_goals
    clear q0 q1 q2 hlt3 hB3 hI3 HMK HM HI0
    go_wp2_with fail
    refine (HO.out _ hI4).mono ?_
    rintro e w5 ⟨a5, rfl, hB5, hI5⟩
    go_wp2_with fail
    refine (HRD.out w5 a5 999 0 _ _ _ (.inl ⟨rfl, rfl, rfl, rfl, rfl⟩) hI5 hB5).mono ?_
    rintro e w6 ⟨rfl, hb6⟩
    have hI6 := hI5.out.next hb6.out
    go_wp2_with fail
    have HX := hide (ClC.new w6 [99, 49] [103] 1000)
    have hI7 := hide (hI6.next ((Below.refl w6.heap.size w6).alloc (Nat.le_refl _) (.cells #[.string (str [99, 49]), .string (str [103]), .int .i64 1000] 24)))
    generalize w6.alloc (.cells #[.string (str [99, 49]), .string (str [103]), .int .i64 1000] 24) = w7 at *
    generalize w6.heap.size = X at *
    clear hI4 hI5 hB5 hb6 hI6
    refine (one_any 1 w7).mono ?_
    rintro e w8 ⟨a8, rfl, hB8, hb8⟩
    have HX8 := hide (HX.out.below hb8.out (Nat.le_refl _))
    have hI8 := hide (hI7.out.next hb8.out)
    clear HX hI7 hb8
    go_wp2_with fail
    refine (HRD.out w8 a8 1000 101 _ _ _ (.inr ⟨rfl, rfl, rfl, rfl, rfl⟩) hI8 hB8).mono ?_
    rintro e w9 ⟨rfl, hb9⟩
    have HX9 := hide (HX8.out.below hb9.out (Nat.le_refl _))
    have hI9 := hide (hI8.out.next hb9.out)
    clear HX8 hI8 hb9 hB8 HRD HO
    obtain ⟨x0, x1, x2⟩ := HX9.out
    obtain ⟨y0, y1, y2⟩ := hI9.out.2
    have hx := HX9.out.lt
    have hy := hI9.out.2.lt
    have e1 : str [99, 49] = (⟨#[99, 49]⟩ : ByteArray) := rfl
    have e2 : str [103] = (⟨#[103]⟩ : ByteArray) := rfl
    have tk : (str T).extract 0 13 = (⟨#[65, 81, 74, 106, 77, 81, 70, 110, 45, 81, 80, 111, 46]⟩ : ByteArray) := HTK.out
    have HB9 : Hid (∀ o, Below w.heap.size w (w9.alloc o)) := fun o => hI9.out.1.alloc hI9.out.1.size o
    go_wp2
    go_ret
    exact ⟨rfl, HB9.out _⟩
theorem awake_any (w : World) (hT : Tb w) : Calls Tryd.prog 7 #[] w fun e w' => e = .returned (.bool true) ∧ Below w.heap.size w w' := by
  obtain ⟨T, hT0, hl, ht⟩ := tok0
  have r1 := rd_mk [((1 : Int), k16)] 0 (1, k16) c0 999 ck0 rfl cl0
  have r2 := rd_mk [((1 : Int), k16)] 0 (1, k16) c0 1000 ck0 rfl cl0
  rw [hT0] at r1 r2
  refine awake_core T (by rw [mk0, hT0]) hl ht ?_ ?_ w hT
  · rw [r1]; rfl
  · rw [r2]; rfl
#print axioms awake_any
end Go.Proofs.YthhcaalafacjlaaDoor
end
