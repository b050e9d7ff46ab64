/-
  THE WALK of AuthtokOne.
-/
import Derived.Test.YthliodpihbbjfaaDoorAutN
set_option linter.unusedVariables false
set_option maxRecDepth 1000000
namespace Go.Proofs.YthliodpihbbjfaaDoor
open Go.RowKit

theorem tmod_nats (m n : Nat) : (m : Int).tmod (n : Int) = ((m % n : Nat) : Int) := rfl
/-- A text's bytes in a new block, that may be written. -/
theorem to_bytes2 : ∃ (V : List UInt8 → World → World) (G : List UInt8 → World → Nat), (∀ l wx, (convert 9 39 (.string (str l))).run Tryd.prog wx = .ok (.slice (some ⟨wx.heap.size, 0, none⟩) l.length (G l wx)) (V l wx)) ∧ (∀ l wx, Below wx.heap.size wx (V l wx)) ∧ (∀ l wx i, i < l.length → (V l wx).cell? ⟨wx.heap.size, i, none⟩ = some (.int .u8 ((l.getD i 0).toNat : Int))) ∧ (∀ l wx i, i < l.length → (V l wx).frozen? ⟨wx.heap.size, i, none⟩ = false) := by
  refine ⟨fun l wx => Lib.bytesWorld wx 5 (str l), fun l wx => grownCap wx (str l).size 0 5, fun l wx => ?_, fun l wx => ?_, fun l wx i hi => ?_, fun l wx i hi => ?_⟩
  · have := Lib.run_convert_string_bytes (P := Tryd.prog) wx 9 39 5 (str l) Tryd.underlying9 Tryd.underlying39 Tryd.underlying5
    rw [this, str_size]
    show _ = Result.ok (Value.slice _ _ (grownCap wx (str l).size 0 5)) _
    rw [str_size]
  · show Below wx.heap.size wx (Lib.bytesWorld wx 5 (str l))
    exact ⟨rfl, rfl, rfl, by rw [Lib.bytesWorld_size]; omega, fun k hk => Lib.bytesWorld_at_old wx _ _ k hk⟩
  · show (Lib.bytesWorld wx 5 (str l)).cell? _ = _
    rw [Lib.bytesWorld_cell wx _ (str l) i (by rw [str_size]; exact hi)]
    rfl
  · show (Lib.bytesWorld wx 5 (str l)).frozen? _ = _
    have hsz : i < (Lib.bytesCells wx 5 (str l)).size := by
      simp only [Lib.bytesCells, Array.size_append, Array.size_map]
      have : (str l).data.size = l.length := by simp [str]
      omega
    simp [World.frozen?, Lib.bytesWorld_at_new]
    omega
theorem row_set {w : World} {Y : Nat} {l : List UInt8} (hc : ∀ i, i < l.length → w.cell? ⟨Y, i, none⟩ = some (.int .u8 ((l.getD i 0).toNat : Int))) (k : Nat) (hk : k < l.length) (c : UInt8) : Row (w.setCell ⟨Y, k, none⟩ (.int .u8 (c.toNat : Int))) (some ⟨Y, 0, none⟩) (l.set k c) := by
  intro _
  refine ⟨Y, 0, rfl, fun i hi => ?_⟩
  rw [Nat.zero_add]
  have hi' : i < l.length := by simpa using hi
  by_cases h : i = k
  · subst h
    rw [World.cell?_setCell_same _ _ _ (hc i hi')]
    simp [hi']
  · rw [World.cell?_setCell_other _ _ _ _ (by intro e; simp only [Addr.mk.injEq, true_and, and_true] at e; exact h e.symm), hc i hi']
    simp [List.getElem?_set_ne (Ne.symm h)]

set_option maxHeartbeats 8000000 in
theorem authtokOne_walk (p : Option Addr) (cp : Nat) (L : List Sec) (now : Int) (s : List UInt8) (at' : Int) (z : Int) (w : World) (h : SecR w p L) (hl : L.length ≤ maxLen) (hs : s.length ≤ maxLen) (hz : (Lit.int .u8 z).wf = true) (hT : Tb w) :
    Calls Tryd.prog 7 #[.slice p L.length cp, .int .i64 now, .string (str s), .int .i64 at', .int .u8 z] w fun e w' => e = .returned (.bool true) ∧ Below w.heap.size w w' := by
  obtain ⟨cz, rfl⟩ : ∃ c : UInt8, z = (c.toNat : Int) := by
    simp [Lit.wf, IntKind.min, IntKind.max, IntKind.bits, IntKind.signed] at hz
    refine ⟨UInt8.ofNat z.toNat, ?_⟩
    have : z.toNat < 256 := by omega
    simp [Nat.mod_eq_of_lt this]
    omega
  unfold maxLen at hs
  have HS := hide h
  have HT := hide hT
  have hss : (str s).size = s.length := str_size s
  clear h hT hz
  have HAW : Hid (∀ W, Hid (Below w.heap.size w W) → Calls Tryd.prog 10 #[] W fun e W' => e = .returned (.bool true) ∧ Hid (Below w.heap.size w W')) := by
    intro W h
    refine (awake_any W (HT.out.below h.out HT.out.big)).mono ?_
    rintro e W' ⟨rfl, hb⟩
    exact ⟨rfl, h.out.trans (hb.mono h.out.size)⟩
  go_enter Tryd.func7, Tryd.ntmps7
  go_wp2_with fail
  refine (secrets_any p cp L w HS.out hl).mono ?_
  rintro e w2 ⟨HB2, hv⟩
  have HT2 := hide (HT.out.below HB2.out HT.out.big)
  rcases hv with rfl | ⟨d, cap, rfl, HS2, hcap, hcm, h21⟩
  · go_wp2_with (go_at_call 10; refine (HAW.out _ HB2).mono ?_; rintro e w9 ⟨rfl, hb9⟩)
    go_ret
    exact ⟨rfl, hb9.out⟩
  by_cases q1 : 65536 < s.length
  · have d1 : decide ((65536 : Int) < (s.length : Int)) = true := decide_eq_true (by omega)
    go_wp2_with (go_at_call 10; refine (HAW.out _ HB2).mono ?_; rintro e w9 ⟨rfl, hb9⟩)
    go_ret
    exact ⟨rfl, hb9.out⟩
  have d1 : decide ((65536 : Int) < (s.length : Int)) = false := decide_eq_false (by omega)
  have HRD : Hid (∀ (W : World) (t : List UInt8), t.length ≤ 100000 → Hid (Below w2.heap.size w2 W) → Calls Tryd.prog 18 #[.slice d L.length cap, .int .i64 now, .string (str t)] W fun e W' => ∃ (E : Int) (c g : List UInt8) (u : Int), e = .returned (.tuple #[.agg #[.string (str c), .string (str g), .int .i64 u], .int .i64 E]) ∧ Hid ((E, (⟨c, g, u⟩ : Cl)) = rdT L now t) ∧ Hid (Below W.heap.size W W')) := by
    intro W t ht hb
    exact read_any d cap L now t W (HS2.out.below hb.out (Nat.le_refl _)) (HT2.out.below hb.out HT2.out.big) (by omega) hcap hcm ht
  have HMO : Hid (∀ (W : World) (c g : List UInt8) (u : Int) (t : List UInt8), Hid (rdT L now t = (0, ⟨c, g, u⟩)) → Hid (Below w2.heap.size w2 W) → Calls Tryd.prog 22 #[.slice d L.length cap, .agg #[.string (str c), .string (str g), .int .i64 u], .string (str t)] W fun e W' => e = .returned (.bool true) ∧ Hid (Below W.heap.size W W')) := by
    intro W c g u t hr hb
    obtain ⟨_, h2, h3⟩ := rd_ok hr.out
    have hn := cl_names h2
    exact madeOf_any d cap L c g u t W (HS2.out.below hb.out (Nat.le_refl _)) (HT2.out.below hb.out HT2.out.big) h21 hcap hcm (by have := hn.1; simp only at this; omega) (by have := hn.2.1; simp only at this; omega) (by have := hn.2.2.1; simp only at this; omega) (by have := hn.2.2.2; simp only at this; omega) h3
  go_wp2_with fail
  refine (HRD.out w2 s (by omega) (Below.refl _ _)).mono ?_
  rintro e w3 ⟨E, c, g, u, rfl, hE, hb3⟩
  have hx3 : w3.heap.size < (w3.alloc (.cells #[.string (str c), .string (str g), .int .i64 u] 24)).heap.size := by simp
  have HX := hide (ClC.new w3 c g u)
  have HB4 : Hid (Below w2.heap.size w2 (w3.alloc (.cells #[.string (str c), .string (str g), .int .i64 u] 24))) := hb3.out.alloc hb3.out.size _
  have e0 : str [] = (⟨#[]⟩ : ByteArray) := rfl
  by_cases hE0 : E = 0
  · subst hE0
    have HR1 := hide hE.out.symm
    have hne := (rd_ok HR1.out).1
    have hpos : 0 < s.length := List.length_pos_iff.2 hne
    have hz0 : ((s.length : Int) == 0) = false := by simp; omega
    clear hE hne
    obtain ⟨V, G, hV, hVb, hVc, hVf⟩ := to_bytes2
    have v1 := fun wx => hV s wx
    have HVB := hide hVb
    have HVC := hide hVc
    have HVF := hide hVf
    clear hV hVb hVc hVf
    have HX5 := hide (HX.out.below (HVB.out s _) (Nat.le_refl _))
    have HB5 : Hid (Below w2.heap.size w2 (V s (w3.alloc (.cells #[.string (str c), .string (str g), .int .i64 u] 24)))) := HB4.out.trans ((HVB.out s _).mono HB4.out.size)
    have HY5 : Hid (∀ i, i < s.length → (V s (w3.alloc (.cells #[.string (str c), .string (str g), .int .i64 u] 24))).cell? ⟨w3.heap.size + 1, i, none⟩ = some (.int .u8 ((s.getD i 0).toNat : Int))) := by
      have := HVC.out s (w3.alloc (.cells #[.string (str c), .string (str g), .int .i64 u] 24))
      rw [show (w3.alloc (.cells #[.string (str c), .string (str g), .int .i64 u] 24)).heap.size = w3.heap.size + 1 by simp] at this
      exact this
    have HF5 : Hid (∀ i, i < s.length → (V s (w3.alloc (.cells #[.string (str c), .string (str g), .int .i64 u] 24))).frozen? ⟨w3.heap.size + 1, i, none⟩ = false) := by
      have := HVF.out s (w3.alloc (.cells #[.string (str c), .string (str g), .int .i64 u] 24))
      rw [show (w3.alloc (.cells #[.string (str c), .string (str g), .int .i64 u] 24)).heap.size = w3.heap.size + 1 by simp] at this
      exact this
    have HYB : Hid (w2.heap.size ≤ w3.heap.size + 1) := by have := hb3.out.size; show _ ≤ _; omega
    obtain ⟨k0, k1, k2⟩ := HX5.out
    go_wp2_with fail
    generalize V s (w3.alloc (.cells #[.string (str c), .string (str g), .int .i64 u] 24)) = w5 at *
    generalize G s (w3.alloc (.cells #[.string (str c), .string (str g), .int .i64 u] 24)) = GC at *
    generalize w3.heap.size + 1 = Y at *
    refine (HMO.out w5 c g u s HR1 HB5).mono ?_
    rintro e w6 ⟨rfl, hb6⟩
    have hYlt : Y < w5.heap.size := World.block_lt_of_cell? w5 _ (HY5.out 0 hpos)
    have HY6 : Hid (∀ i, i < s.length → w6.cell? ⟨Y, i, none⟩ = some (.int .u8 ((s.getD i 0).toNat : Int))) := fun i hi => by rw [hb6.out.cell (show Y < w5.heap.size from hYlt)]; exact HY5.out i hi
    have HF6 : Hid (∀ i, i < s.length → w6.frozen? ⟨Y, i, none⟩ = false) := fun i hi => by rw [World.frozen?_of_block (hb6.out.block Y hYlt)]; exact HF5.out i hi
    have HB6 : Hid (Below w2.heap.size w2 w6) := HB5.out.trans (hb6.out.mono HB5.out.size)
    clear hb6 HB5 HY5 HF5 HB4 HX HX5 k0 k1 k2 v1 hx3 HVB HVC HVF hb3
    obtain ⟨K, hK⟩ : ∃ K : Nat, IntKind.u64.wrap at' = (K : Int) := ⟨(IntKind.u64.wrap at').toNat, by rw [IntKind.wrap_u64]; omega⟩
    have hW : IntKind.u64.wrap (s.length : Int) = (s.length : Int) := by rw [IntKind.wrap_u64]; omega
    obtain ⟨I, hI⟩ : ∃ I, I = K % s.length := ⟨_, rfl⟩
    have hIl : I < s.length := by rw [hI]; exact Nat.mod_lt _ hpos
    have hI1 : (K : Int).tmod (s.length : Int) = (I : Int) := by rw [hI]; exact tmod_nats K s.length
    have hI2 : (K : Int) % (s.length : Int) = (I : Int) := by rw [hI]; simp
    have hIl2 : (I : Int) < (s.length : Int) := by omega
    clear hI
    have cI := HY6.out I hIl
    have fI := HF6.out I hIl
    have HR7 := hide (row_set HY6.out I hIl cz)
    have HB7 : Hid (Below w2.heap.size w2 (w6.setCell ⟨Y, I, none⟩ (.int .u8 (cz.toNat : Int)))) := HB6.out.grown (grownBy_set w6 _ _) HB6.out.size (fun k hk => by rw [← Option.some.inj hk]; exact HYB.out)
    obtain ⟨s', hs'⟩ : ∃ s', s.set I cz = s' := ⟨_, rfl⟩
    have hsl : s'.length = s.length := by rw [← hs']; simp
    rw [hs'] at HR7
    have cv7 := run_str (w6.setCell ⟨Y, I, none⟩ (.int .u8 (cz.toNat : Int))) (some ⟨Y, 0, none⟩) s.length GC s' HR7.out hsl.symm
    have HSL := hide hsl
    clear hs' hsl
    go_wp2_with fail
    refine (HRD.out _ s' (by rw [HSL.out]; omega) HB7).mono ?_
    rintro e w8 ⟨E2, c2, g2, u2, rfl, hE2, hb8⟩
    have HR8 := hide (HR7.out.below hb8.out (Nat.le_refl _))
    have HB8 : Hid (Below w2.heap.size w2 w8) := HB7.out.trans (hb8.out.mono HB7.out.size)
    have HB9 : Hid (Below w2.heap.size w2 (w8.alloc (.cells #[.string (str c2), .string (str g2), .int .i64 u2] 24))) := HB8.out.alloc HB8.out.size _
    clear cv7 cI fI HR7 HB7 hb8 HY6 HF6 HB6
    have cv8 := run_str (w8.alloc (.cells #[.string (str c2), .string (str g2), .int .i64 u2] 24)) (some ⟨Y, 0, none⟩) s.length GC s' (HR8.out.alloc _) HSL.out.symm
    by_cases hE20 : E2 = 0
    · subst hE20
      have HR2 := hide hE2.out.symm
      clear hE2
      go_wp2_with fail
      refine (HMO.out _ c2 g2 u2 s' HR2 HB9).mono ?_
      rintro e w10 ⟨rfl, hb10⟩
      have HB10 : Hid (Below w.heap.size w w10) := HB2.out.trans ((HB9.out.trans (hb10.out.mono HB9.out.size)).mono HB2.out.size)
      clear cv8 hb10 HB9
      go_wp2_with (go_at_call 10; refine (HAW.out _ HB10).mono ?_; rintro e w11 ⟨rfl, hb11⟩)
      go_ret
      exact ⟨rfl, hb11.out⟩
    · have hEq : (E2 == 0) = false := by simp [hE20]
      have hEn : (E2 != 0) = true := by simp [hE20]
      have HB10 : Hid (∀ o, Hid (Below w.heap.size w (w8.alloc o))) := fun o => (HB2.out.trans (HB8.out.mono HB2.out.size)).alloc (Nat.le_trans HB2.out.size HB8.out.size) o
      clear hE2 HB9 cv8
      go_wp2_with (go_at_call 10; refine (HAW.out _ (HB10.out _)).mono ?_; rintro e w9 ⟨rfl, hb9⟩)
      go_ret
      exact ⟨rfl, hb9.out⟩
  · have hzr := rd_no hE.out.symm hE0
    simp only [Cl.zero, Cl.mk.injEq] at hzr
    obtain ⟨rfl, rfl, rfl⟩ := hzr
    have hEq : (E == 0) = false := by simp [hE0]
    have hEn : (E != 0) = true := by simp [hE0]
    have HB5 : Hid (∀ o, Hid (Below w.heap.size w (w3.alloc o))) := fun o => (HB2.out.trans (hb3.out.mono HB2.out.size)).alloc (Nat.le_trans HB2.out.size hb3.out.size) o
    clear hE HX HB4 hx3
    go_wp2_with (go_at_call 10; refine (HAW.out _ (HB5.out _)).mono ?_; rintro e w9 ⟨rfl, hb9⟩)
    go_ret
    exact ⟨rfl, hb9.out⟩
#print axioms authtokOne_walk
end Go.Proofs.YthliodpihbbjfaaDoor
