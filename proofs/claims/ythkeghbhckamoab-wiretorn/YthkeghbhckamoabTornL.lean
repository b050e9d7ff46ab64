/-
  THE WALK OF WireTorn.
-/
import Derived.Test.YthkeghbhckamoabUnf
import Derived.Test.YthkeghbhckamoabTorn
import Derived.Test.YthkeghbhckamoabOwn2
set_option linter.unusedVariables false
namespace Go.Proofs.Ythkeghbhckamoab
open Go.RowKit

theorem wf_i64 {n : Int} (h : (Lit.int .i64 n).wf = true) : -9223372036854775808 ≤ n ∧ n ≤ 9223372036854775807 := by
  simp [Lit.wf, IntKind.min, IntKind.max, IntKind.bits, IntKind.signed] at h
  omega

theorem tmod_nat (m n : Nat) : (m : Int).tmod (n : Int) = ((m % n : Nat) : Int) := rfl

theorem own_stored {w : World} {base g cap : Nat} {l : List UInt8} (h : OwnB w base (some ⟨g, 0, none⟩) cap l) (j : Nat) (c : UInt8) : OwnB (w.setCell ⟨g, j, none⟩ (.int .u8 (c.toNat : Int))) base (some ⟨g, 0, none⟩) cap (l.set j c) := by
  have := World.ownsRow.stored h j (.int .u8 (c.toNat : Int))
  unfold OwnB
  rw [List.length_set]
  have e : bs (l.set j c) = (bs l).set j (.int .u8 (c.toNat : Int)) := by simp [bs, List.map_set]
  rw [e]
  exact this.1

set_option maxHeartbeats 1000000 in
theorem wireTorn_big (a0 : Option Addr) (cap0 : Nat) (l0 : List UInt8) (k x : Int) (w : World) (hm : l0.length ≤ maxLen) (h1 : 65536 < l0.length) :
    Calls Try.prog 5 #[.slice a0 l0.length cap0, .int .i64 k, .int .i64 x] w fun e w' => e = .returned (.bool true) ∧ Below w.heap.size w w' := by
  unfold maxLen at hm
  go_enter Try.func5, Try.ntmps5
  go_wp2_with fail
  refine (frame_big a0 _ cap0 w h1).mono ?_
  rintro e w1 ⟨rfl, rfl⟩
  go_wp2
  go_ret
  exact ⟨rfl, Below.refl _ _⟩

set_option maxHeartbeats 2000000 in
theorem wireTorn_small (a0 : Option Addr) (cap0 : Nat) (l0 : List UInt8) (k x : Int) (w : World) (w0 : Bs w a0 cap0 l0) (hk0 : -9223372036854775808 ≤ k) (hk1 : k ≤ 9223372036854775807) (hx0 : -9223372036854775808 ≤ x) (hx1 : x ≤ 9223372036854775807) (h1 : ¬ 65536 < l0.length) :
    Calls Try.prog 5 #[.slice a0 l0.length cap0, .int .i64 k, .int .i64 x] w fun e w' => e = .returned (.bool true) ∧ Below w.heap.size w w' := by
  go_enter Try.func5, Try.ntmps5
  go_wp2_with fail
  refine (frame_ok a0 _ cap0 l0 w w0 rfl h1).mono ?_
  rintro e w1 ⟨a1, cap1, f, rfl, hr1, ho1, hb1⟩
  have hfl : f.length = l0.length + 7 := by rw [hr1.out, frameOf_length]
  have hfl1 : l0.length + 7 ≤ f.length := by omega
  have hfl2 : f.length ≤ l0.length + 7 := by omega
  have hne : ((f.length : Int) != (l0.length : Int) + 7) = false := by simp; omega
  have HFL := hide hfl
  have hcap := ho1.toBs.le
  clear hfl
  obtain ⟨K, hK⟩ : ∃ K : Nat, IntKind.u64.wrap k = (K : Int) := ⟨(IntKind.u64.wrap k).toNat, by rw [IntKind.wrap_u64]; omega⟩
  obtain ⟨X, hX⟩ : ∃ X : Nat, IntKind.u64.wrap x = (X : Int) := ⟨(IntKind.u64.wrap x).toNat, by rw [IntKind.wrap_u64]; omega⟩
  obtain ⟨R, hR⟩ : ∃ R, R = K % f.length := ⟨_, rfl⟩
  have hRl : R < f.length := by rw [hR]; exact Nat.mod_lt _ (by omega)
  have hR1 : (K : Int).tmod (f.length : Int) = (R : Int) := by rw [hR]; exact tmod_nat K f.length
  have hR2 : (K : Int) % (f.length : Int) = (R : Int) := by rw [hR]; simp
  obtain ⟨J, hJ⟩ : ∃ J, J = K % (l0.length + 4) := ⟨_, rfl⟩
  have hJl : J < l0.length + 4 := by rw [hJ]; exact Nat.mod_lt _ (by omega)
  have hJ1 : (K : Int).tmod ((l0.length : Int) + 4) = (J : Int) := by rw [hJ]; exact tmod_nat K (l0.length + 4)
  have hJ2 : (K : Int) % ((l0.length : Int) + 4) = (J : Int) := by rw [hJ]; simp
  obtain ⟨Y, hY⟩ : ∃ Y, Y = X % 255 := ⟨_, rfl⟩
  have hYl : Y < 255 := by omega
  have hY1 : (X : Int).tmod 255 = (Y : Int) := by rw [hY]; exact tmod_nat X 255
  have hY2 : (X : Int) % 255 = (Y : Int) := by rw [hY]; simp
  clear hR hJ hY
  have hRc : R ≤ cap1 := by omega
  have hfE : f = frameOf l0 := hr1.out
  have hcut := unframe_cut l0 (by omega) R (by omega)
  rw [← hfE] at hcut
  have HF := hide hfE
  have HCUT := hide hcut
  clear hcut hfE hr1
  have hBs1 : Hid (Bs w1 a1 cap1 (f.take R)) := ⟨ho1.toBs.row.take R, by simp; omega, ho1.toBs.most, ho1.toBs.nz⟩
  have hRlen := hide (show R = (f.take R).length by simp; omega)
  go_wp2_with fail
  refine (unframe_any a1 R cap1 (f.take R) w1 (unhide hBs1) (unhide hRlen)).mono ?_
  rintro e w2 ⟨a2, cap2, r2, N2, E2, rfl, hr2, ho2, hb2⟩
  have hfe := hr2.out.trans HCUT.out
  simp only [Prod.mk.injEq] at hfe
  obtain ⟨rfl, rfl, rfl⟩ := hfe
  have ho1 := ho1.below hb2 (Nat.le_refl _)
  have hW2 := hb1.trans (hb2.mono hb1.size)
  clear hr2 HCUT hBs1 hRlen hb1 hb2 ho2
  go_wp2_with fail
  refine (sclone_any a1 _ cap1 f w2 ho1.toBs rfl (by omega)).mono ?_
  rintro e w3 ⟨a3, cap3, g, rfl, hr3, ho3, hb3⟩
  have eg : f = g := hr3.out.symm
  subst eg
  have hW3 := hW2.trans (hb3.mono hW2.size)
  have s2 := hW2.size
  clear hr3 ho1 hW2
  obtain ⟨I, hI⟩ : ∃ I, I = 3 + J := ⟨_, rfl⟩
  have hI1 : 3 + (J : Int) = (I : Int) := by omega
  have hIl : I < f.length := by omega
  have hIl2 : (I : Int) < (f.length : Int) := by omega
  obtain ⟨g3, rfl, hg30, hg31, hc3, hf3⟩ := ho3.some (by omega)
  have hc := hc3 I hIl
  have hf := hf3 I
  obtain ⟨d, hd⟩ : ∃ d, d = f.getD I 0 := ⟨_, rfl⟩
  rw [← hd] at hc
  obtain ⟨c, hcc⟩ : ∃ c : UInt8, c = d ^^^ UInt8.ofNat (1 + Y) := ⟨_, rfl⟩
  have hxor : bits .xor .u8 (d.toNat : Int) (1 + (Y : Int)) = (c.toNat : Int) := by
    have := u8_xor_nat d.toNat (1 + Y) d.toNat_lt (by omega)
    rw [hcc, UInt8.toNat_xor]
    have e : (UInt8.ofNat (1 + Y)).toNat = 1 + Y := by simp; omega
    rw [e, ← this]
    congr 1
  have hne : c ≠ d := by
    intro h
    rw [h] at hcc
    have h2 := congrArg UInt8.toNat hcc
    rw [UInt8.toNat_xor] at h2
    have e : (UInt8.ofNat (1 + Y)).toNat = 1 + Y := by simp; omega
    rw [e] at h2
    have h3 : d.toNat ^^^ 0 = d.toNat ^^^ (1 + Y) := by rw [Nat.xor_zero]; exact h2
    have := xor_cancel_l h3
    omega
  have hturn : (unframe (f.set I c)).2.2 = 11 := by
    have := unframe_turn l0 (by omega) J hJl c (by rw [← HF.out, ← hI, ← hd]; exact hne)
    rw [← HF.out, ← hI] at this
    exact this
  have HT := hide hturn
  have hst := hide (own_stored ho3 I c)
  have hbl := hide (hW3.setCell (p := ⟨g3, I, none⟩) (by simp only; have := hW3.size; have := hb3.size; omega) (.int .u8 (c.toNat : Int)))
  have hsl := hide (show f.length = (f.set I c).length by simp)
  clear hturn hne hcc hd hc3 hf3 hb3 hW3 hI
  go_wp2_with fail
  refine (unframe_any (some ⟨g3, 0, none⟩) _ cap3 (f.set I c) _ (unhide hst).toBs (unhide hsl)).mono ?_
  rintro e w5 ⟨a5, cap5, r5, N5, E5, rfl, hr5, ho5, hb5⟩
  have hE5 : E5 = 11 := by have := HT.out; rw [← hr5.out] at this; exact this
  subst hE5
  have hW5 := (unhide hbl).trans (hb5.mono (unhide hbl).size)
  clear hr5 HT
  go_wp2
  go_ret
  exact ⟨rfl, hW5⟩

theorem wireTorn_walk (a0 : Option Addr) (cap0 : Nat) (l0 : List UInt8) (k x : Int) (w : World) (w0 : Bs w a0 cap0 l0) (w1 : (Lit.int .i64 k).wf = true) (w2 : (Lit.int .i64 x).wf = true) :
    Calls Try.prog 5 #[.slice a0 l0.length cap0, .int .i64 k, .int .i64 x] w fun e w' => e = .returned (.bool true) ∧ Below w.heap.size w w' := by
  by_cases h : 65536 < l0.length
  · exact wireTorn_big a0 cap0 l0 k x w (Nat.le_trans w0.le w0.most) h
  · exact wireTorn_small a0 cap0 l0 k x w w0 (wf_i64 w1).1 (wf_i64 w1).2 (wf_i64 w2).1 (wf_i64 w2).2 h
#print axioms wireTorn_walk
end Go.Proofs.Ythkeghbhckamoab
