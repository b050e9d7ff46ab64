/-
  authtok: THE WALKS of signed and Read.
-/
import Derived.Test.YtoapkajlgnlecaaDoorAutG
set_option linter.unusedVariables false
set_option maxRecDepth 1000000
namespace Go.Proofs.YtoapkajlgnlecaaDoor
open Go.RowKit

/-- A text's bytes in a new block: the world behind, the new row's capacity. -/
theorem to_bytes : ∃ (V : List UInt8 → World → World) (G : List UInt8 → World → Nat), (∀ l wx, (convert 9 23 (.string (str l))).run Tryd.prog wx = .ok (.slice (some ⟨wx.heap.size, 0, none⟩) l.length (G l wx)) (V l wx)) ∧ (∀ l wx, Below wx.heap.size wx (V l wx)) ∧ (∀ l wx, Row (V l wx) (some ⟨wx.heap.size, 0, none⟩) l) := by
  refine ⟨fun l wx => Lib.bytesWorld wx 5 (str l), fun l wx => grownCap wx (str l).size 0 5, fun l wx => ?_, fun l wx => ?_, fun l wx => ?_⟩
  · have := Lib.run_convert_string_bytes (P := Tryd.prog) wx 9 23 5 (str l) Tryd.underlying9 Tryd.underlying23 Tryd.underlying5
    rw [this, str_size]
    show _ = Result.ok (Value.slice _ _ (grownCap wx (str l).size 0 5)) _
    rw [str_size]
  · show Below wx.heap.size wx (Lib.bytesWorld wx 5 (str l))
    exact ⟨rfl, rfl, rfl, by rw [Lib.bytesWorld_size]; omega, fun k hk => Lib.bytesWorld_at_old wx _ _ k hk⟩
  · intro hne
    refine ⟨wx.heap.size, 0, rfl, fun i hi => ?_⟩
    rw [Nat.zero_add, Lib.bytesWorld_cell wx _ (str l) i (by rw [str_size]; exact hi)]
    rfl

theorem Tryd.sizeS (w : World) : (sizeOf (Tryd.prog.elem 40)).run Tryd.prog w = .ok 2 w := by kernel_rfl
theorem Tryd.elemS : Tryd.prog.underlying 40 = some (.slice (Tryd.prog.elem 40)) := by kernel_rfl
theorem cut_secs (b off n cap H : Nat) (h : Int) (w : World) (hh : h = (H : Int)) (h2 : H ≤ cap) :
    (Instr.slice 40 (.slice (some ⟨b, off, none⟩) n cap) none (some (.int .i64 h)) none).run Tryd.prog w = .ok (.slice (some ⟨b, off, none⟩) H cap) w := by
  subst hh
  rw [run_slice_h (P := Tryd.prog) w 40 _ n cap Tryd.elemS .i64 (H : Int) (by omega) (by omega), Tryd.sizeS]
  simp [Result.andThen, sliced, Int.toNat_natCast]
  intro _
  exact addr_add b off 0
theorem pay_len (id : Int) (x : Cl) : (pay id x).length ≤ 40 + x.c.length + x.g.length := by
  unfold pay
  simp only [List.length_append]
  have := form_len id.toNat
  have := form_len x.c.length
  have := form_len x.g.length
  have := form_len x.u.toNat
  omega
theorem mk_len (L : List Sec) (x : Cl) (hc : x.c.length ≤ 100000) (hg : x.g.length ≤ 100000) : (mkT L x).2.length ≤ 400000 := by
  unfold mkT
  split
  · simp
  · split
    · simp
    · simp only [tok, List.length_append, List.length_cons, sp_length, mac_length]
      have := pay_len (lastS L).1 x
      omega
/-- What stays while a token is made again. -/
def InvS (w : World) (Z : Nat) (c g : List UInt8) (u : Int) (W : World) : Prop := Below w.heap.size w W ∧ ClC W Z c g u
theorem InvS.next {w W W' : World} {Z : Nat} {c g : List UInt8} {u : Int} (h : InvS w Z c g u W) (hb : Below W.heap.size W W') : InvS w Z c g u W' := ⟨h.1.trans (hb.mono h.1.size), h.2.below hb (Nat.le_refl _)⟩

set_option maxHeartbeats 8000000 in
theorem signed_any (p : Option Addr) (cp : Nat) (L : List Sec) (id : Int) (c g : List UInt8) (u : Int) (s : List UInt8) (w : World) (h : SecR w p L) (hT : Tb w) (hl : L.length ≤ 140737488355328) (hcp : L.length ≤ cp) (hcm : cp ≤ maxLen) (hc : c.length ≤ 100000) (hg : g.length ≤ 100000) (hu0 : -9223372036854775808 ≤ u) (hu1 : u ≤ 9223372036854775807) (hsl : s.length ≤ 100000) :
    Calls Tryd.prog 21 #[.slice p L.length cp, .int .i64 id, .agg #[.string (str c), .string (str g), .int .i64 u], .string (str s)] w fun e w' => e = .returned (.bool (sgn L id ⟨c, g, u⟩ s)) ∧ Hid (Below w.heap.size w w') := by
  obtain ⟨b, hb⟩ : ∃ b, sgn L id ⟨c, g, u⟩ s = b := ⟨_, rfl⟩
  have HSG := hide hb
  rw [hb]
  clear hb
  have HS := hide h
  have HT := hide hT
  clear h hT
  unfold maxLen at hcm
  go_enter Tryd.func21, Tryd.ntmps21
  go_wp2_with fail
  have HI1 : Hid (InvS w (w.heap.size + 1) c g u ((w.alloc (.cells #[.int .i64 id] 3)).alloc (.cells #[.string (str c), .string (str g), .int .i64 u] 33))) :=
    ⟨((Below.refl _ _).alloc (Nat.le_refl _) _).alloc (by simp) _, by have := ClC.new (w.alloc (.cells #[.int .i64 id] 3)) c g u; simpa using this⟩
  have HX1 : Hid (((w.alloc (.cells #[.int .i64 id] 3)).alloc (.cells #[.string (str c), .string (str g), .int .i64 u] 33)).cell? ⟨w.heap.size, 0, none⟩ = some (.int .i64 id)) := by show _ = _; simp
  generalize (w.alloc (.cells #[.int .i64 id] 3)).alloc (.cells #[.string (str c), .string (str g), .int .i64 u] 33) = w1 at *
  refine (index_any p cp L w.heap.size id w1 (HS.out.below HI1.out.1 (Nat.le_refl _)) hl HX1.out).mono ?_
  rintro e w2 ⟨r, rfl, hb2, hr⟩
  have HI2 := hide (HI1.out.next hb2.out)
  clear HI1 HX1 hb2
  generalize w.heap.size + 1 = Z at *
  rcases hr with ⟨rfl, hf⟩ | ⟨i, rfl, hil, hf⟩
  · obtain rfl : b = false := by rw [← HSG.out]; unfold sgn; rw [hf.out]
    go_wp2
    go_ret
    exact ⟨rfl, HI2.out.1⟩
  · obtain ⟨k, hk⟩ : ∃ k, L[i]? = some k := ⟨_, List.getElem?_eq_getElem hil⟩
    obtain ⟨bb, off, x, cx, rfl, -, -, -, -⟩ := (HS.out.below HI2.out.1 (Nat.le_refl _)).at hk
    clear hk
    obtain ⟨n, hn⟩ : ∃ n, n = i + 1 := ⟨_, rfl⟩
    have htl : (L.take n).length = n := by rw [List.length_take]; omega
    have HMK : Hid (∀ W, Hid (InvS w Z c g u W) → Calls Tryd.prog 7 #[.slice (some ⟨bb, off, none⟩) n cp, .agg #[.string (str c), .string (str g), .int .i64 u]] W fun e W' => ∃ (E : Int) (t : List UInt8), e = .returned (.tuple #[.string (str t), .int .i64 E]) ∧ Hid ((E, t) = mkT (L.take n) ⟨c, g, u⟩) ∧ Hid (InvS w Z c g u W')) := by
      intro W h
      have hm := make_core (some ⟨bb, off, none⟩) cp (L.take n) c g u W ((HS.out.below h.out.1 (Nat.le_refl _)).take n) (HT.out.below h.out.1 HT.out.big) (by rw [htl]; omega) hc hg hu0 hu1
      rw [htl] at hm
      refine hm.mono ?_
      rintro e W' ⟨E, t, rfl, h1, h2⟩
      exact ⟨E, t, rfl, h1, h.out.next h2.out⟩
    have HF : Hid (b = (decide ((mkT (L.take n) ⟨c, g, u⟩).1 = 0) && decide ((mkT (L.take n) ⟨c, g, u⟩).2 = s))) := by
      show _ = _
      rw [← HSG.out, hn]
      unfold sgn
      rw [hf.out]
    have q1 : (i : Int) + 1 = (n : Int) := by omega
    have q2 : ¬ cp = 0 := by omega
    have q3 : n ≤ cp := by omega
    have q4 : (n : Int) ≤ (cp : Int) := by omega
    have q5 : IntKind.i64.wrap (n : Int) = (n : Int) := by
      have hn2 : n ≤ 140737488355328 := by omega
      simp only [IntKind.wrap, IntKind.bits, IntKind.signed]
      simp
      omega
    have q6 : 0 ≤ (n : Int) := by omega
    clear HSG hf htl hn
    obtain ⟨k0, k1, k2⟩ := HI2.out.2
    have HI2' : Hid (InvS w Z c g u w2.drew) := HI2.out.next (Below.refl _ _).drew
    go_wp2
    go_region_with (go_at_call 7; refine (HMK.out _ (by assumption)).mono ?_; rintro e w3 ⟨E, t, rfl, hE, hI3⟩)
    all_goals
      have hmk := mk_len (L.take n) ⟨c, g, u⟩ hc hg
      rw [← hE.out] at hmk
      simp only at hmk
      have HF2 : Hid (b = (decide (E = 0) && decide (t = s))) := by show _ = _; rw [HF.out, ← hE.out]
      clear hE HF
      by_cases hE0 : E = 0
      · subst hE0
        obtain rfl : b = (t == s) := by rw [HF2.out]; by_cases h : t = s <;> simp [h]
        obtain ⟨V, G, hV, hVb, hVr⟩ := to_bytes
        have v1 := fun wx => hV t wx
        have v2 := fun wx => hV s wx
        have HVB := hide hVb
        have HVR := hide hVr
        clear hV hVb hVr HF2 HMK
        go_wp2_with (go_at_call 38; refine (same_any (some ⟨w3.heap.size, 0, none⟩) _ t (some ⟨(V t w3).heap.size, 0, none⟩) _ s t.length s.length _ ((HVR.out t w3).below (HVB.out s (V t w3)) (Nat.le_refl _)) (HVR.out s (V t w3)) rfl rfl (by omega) (by omega)).mono ?_; rintro e w5 ⟨rfl, hb5⟩)
        go_ret
        exact ⟨rfl, (hI3.out.next ((HVB.out t w3).trans (((HVB.out s (V t w3)).trans (hb5.mono (HVB.out s (V t w3)).size)).mono (HVB.out t w3).size))).1⟩
      · obtain rfl : b = false := by rw [HF2.out, decide_eq_false hE0]; rfl
        have hEq : (E == 0) = false := by simp [hE0]
        go_wp2
        go_ret
        exact ⟨rfl, hI3.out.1⟩
#print axioms signed_any
end Go.Proofs.YtoapkajlgnlecaaDoor
