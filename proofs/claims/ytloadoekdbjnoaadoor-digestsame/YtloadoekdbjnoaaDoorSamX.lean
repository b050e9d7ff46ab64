/-
  THE WALK of DigestSame.
-/
import Derived.Test.YtloadoekdbjnoaaDoorSamL
import Derived.Test.YtloadoekdbjnoaaDoorOwn2
set_option linter.unusedVariables false
namespace Go.Proofs.YtloadoekdbjnoaaDoor
open Go.RowKit

theorem tmod_nat (m n : Nat) : (m : Int).tmod (n : Int) = ((m % n : Nat) : Int) := rfl

theorem own_stored {w : World} {base g cap : Nat} {l : List UInt8} (h : OwnB w base (some ⟨g, 0, none⟩) cap l) (j : Nat) (c : UInt8) : OwnB (w.setCell ⟨g, j, none⟩ (.int .u8 (c.toNat : Int))) base (some ⟨g, 0, none⟩) cap (l.set j c) := by
  have := World.ownsRow.stored h j (.int .u8 (c.toNat : Int))
  unfold OwnB
  rw [List.length_set]
  have e : bs (l.set j c) = (bs l).set j (.int .u8 (c.toNat : Int)) := by simp [bs, List.map_set]
  rw [e]
  exact this.1

theorem set_ne (l : List UInt8) (i : Nat) (h : i < l.length) (c : UInt8) (hc : c ≠ l.getD i 0) : (l == l.set i c) = false := by
  simp only [beq_eq_false_iff_ne, ne_eq]
  intro e
  apply hc
  have h2 : (l.set i c).getD i 0 = c := by simp [h]
  rw [← h2, ← e]
theorem xor_self_ne (d y : UInt8) (h : y ≠ 0) : d ^^^ y ≠ d := by
  intro e
  apply h
  have : d ^^^ (d ^^^ y) = d ^^^ d := by rw [e]
  rw [← UInt8.xor_assoc] at this
  simpa using this

set_option maxRecDepth 100000 in
set_option maxHeartbeats 4000000 in
theorem digestSame_none (a0 : Option Addr) (cap0 : Nat) (a1 : Option Addr) (cap1 : Nat) (l1 : List UInt8) (z : Int) (w : World) (w0 : Bs w a0 cap0 []) (w1 : Bs w a1 cap1 l1) (h1 : l1.length ≤ 140737488355328) (hT : Tb w) :
    Calls Tryd.prog 8 #[.slice a0 0 cap0, .slice a1 l1.length cap1, .int .i64 z] w fun e w' => e = .returned (.bool true) ∧ Below w.heap.size w w' := by
  have HT := hide hT
  have H0 := hide w0
  have H1 := hide w1
  clear w0 w1 hT
  go_enter Tryd.func8, Tryd.ntmps8
  go_wp2_with fail
  refine (sclone_big a0 0 cap0 [] w H0.out rfl (by simp)).mono ?_
  rintro e w2 ⟨a2, cap2, r, rfl, hr, ho2, hb2⟩
  obtain rfl : r = [] := hr.out
  have HB2 := hide hb2
  clear hr ho2 hb2
  simp only [List.length_nil]
  go_wp2_with fail
  refine (same_any a0 cap0 [] a1 cap1 l1 0 l1.length w2 (H0.out.row.below HB2.out (Nat.le_refl _)) (H1.out.row.below HB2.out (Nat.le_refl _)) rfl rfl (by omega) h1).mono ?_
  rintro e w3 ⟨rfl, hb3⟩
  have HB3 := hide (HB2.out.trans (hb3.mono HB2.out.size))
  clear hb3 HB2
  generalize hq : (([] : List UInt8) == l1) = q
  have HQ := hide hq
  clear hq
  go_wp2_with fail
  refine (eqs_big a0 cap0 [] a1 cap1 l1 0 l1.length w3 (H0.out.row.below HB3.out (Nat.le_refl _)) (H1.out.row.below HB3.out (Nat.le_refl _)) rfl rfl (by omega) h1).mono ?_
  rintro e w4 ⟨rfl, hb4⟩
  have HB4 := hide (HB3.out.trans (hb4.mono HB3.out.size))
  clear hb4 HB3
  rw [HQ.out]
  go_wp2_with fail
  refine (same_any a0 cap0 [] a0 cap0 [] 0 0 w4 (H0.out.row.below HB4.out (Nat.le_refl _)) (H0.out.row.below HB4.out (Nat.le_refl _)) rfl rfl (by omega) (by omega)).mono ?_
  rintro e w5 ⟨rfl, hb5⟩
  have HB5 := hide (HB4.out.trans (hb5.mono HB4.out.size))
  clear hb5 HB4
  go_wp2_with fail
  refine (awake_any _ (HT.out.below HB5.out HT.out.big)).mono ?_
  rintro e w6 ⟨rfl, hb6⟩
  have HB6 := hide (HB5.out.trans (hb6.mono HB5.out.size))
  clear hb6
  go_wp2
  go_ret
  exact ⟨rfl, HB6.out⟩

set_option maxRecDepth 100000 in
set_option maxHeartbeats 4000000 in
theorem digestSame_some (a0 : Option Addr) (cap0 : Nat) (l0 : List UInt8) (a1 : Option Addr) (cap1 : Nat) (l1 : List UInt8) (z : Int) (w : World) (w0 : Bs w a0 cap0 l0) (w1 : Bs w a1 cap1 l1) (hp : 0 < l0.length) (h0 : l0.length ≤ 140737488355328) (h1 : l1.length ≤ 140737488355328) (hT : Tb w) :
    Calls Tryd.prog 8 #[.slice a0 l0.length cap0, .slice a1 l1.length cap1, .int .i64 z] w fun e w' => e = .returned (.bool true) ∧ Below w.heap.size w w' := by
  have HT := hide hT
  have H0 := hide w0
  have H1 := hide w1
  clear w0 w1 hT
  go_enter Tryd.func8, Tryd.ntmps8
  go_wp2_with fail
  refine (sclone_big a0 l0.length cap0 l0 w H0.out rfl h0).mono ?_
  rintro e w2 ⟨a2, cap2, r, rfl, hr, ho2, hb2⟩
  have er : r.length = l0.length := by rw [hr.out]
  rw [er]
  have HR := hide hr.out
  have HB2 := hide hb2
  clear hr hb2
  obtain ⟨K, hK⟩ : ∃ K : Nat, IntKind.u64.wrap z = (K : Int) := ⟨(IntKind.u64.wrap z).toNat, by rw [IntKind.wrap_u64]; omega⟩
  have hW : IntKind.u64.wrap (l0.length : Int) = (l0.length : Int) := by rw [IntKind.wrap_u64]; omega
  obtain ⟨I, hI⟩ : ∃ I, I = K % l0.length := ⟨_, rfl⟩
  have hIl : I < l0.length := by rw [hI]; exact Nat.mod_lt _ hp
  have hI1 : (K : Int).tmod (l0.length : Int) = (I : Int) := by rw [hI]; exact tmod_nat K l0.length
  have hI2 : (K : Int) % (l0.length : Int) = (I : Int) := by rw [hI]; simp
  have hIl2 : (I : Int) < (l0.length : Int) := by omega
  obtain ⟨Y, hY⟩ : ∃ Y, Y = K % 255 := ⟨_, rfl⟩
  have hYl : Y < 255 := by omega
  have hY1 : (K : Int).tmod 255 = (Y : Int) := by rw [hY]; exact tmod_nat K 255
  have hY2 : (K : Int) % 255 = (Y : Int) := by rw [hY]; simp
  clear hI hY
  obtain ⟨g2, rfl, hg20, hg21, hc2, hf2⟩ := ho2.some (by omega)
  have hc := hc2 I (by omega)
  have hf := hf2 I
  obtain ⟨d, hd⟩ : ∃ d, d = r.getD I 0 := ⟨_, rfl⟩
  rw [← hd] at hc
  obtain ⟨c, hcc⟩ : ∃ c : UInt8, c = d ^^^ UInt8.ofNat (1 + Y) := ⟨_, rfl⟩
  have hxor : bits .xor .u8 (d.toNat : Int) (1 + (Y : Int)) = (c.toNat : Int) := by
    have := u8_xor_nat d.toNat (1 + Y) d.toNat_lt (by omega)
    rw [hcc, UInt8.toNat_xor]
    have e : (UInt8.ofNat (1 + Y)).toNat = 1 + Y := by simp; omega
    rw [e, ← this]
    congr 1
  have hne : c ≠ l0.getD I 0 := by
    rw [← HR.out, ← hd, hcc]
    refine xor_self_ne _ _ ?_
    intro e
    have h2 := congrArg UInt8.toNat e
    have e : (UInt8.ofNat (1 + Y)).toNat = 1 + Y := by simp; omega
    rw [e] at h2
    simp at h2
  have HNE := hide (set_ne l0 I hIl c hne)
  have hst := hide (own_stored ho2 I c)
  have HBL := hide (HB2.out.setCell (p := ⟨g2, I, none⟩) (by simp only; have := HB2.out.size; omega) (.int .u8 (c.toNat : Int)))
  have hsl := hide (show l0.length = (r.set I c).length by simp; omega)
  clear hne hcc hd hc2 hf2 ho2 er HB2
  go_wp2_with fail
  refine (same_any a0 cap0 l0 a1 cap1 l1 l0.length l1.length _ (H0.out.row.below HBL.out (Nat.le_refl _)) (H1.out.row.below HBL.out (Nat.le_refl _)) rfl rfl h0 h1).mono ?_
  rintro e w3 ⟨rfl, hb3⟩
  have HB3 := hide (HBL.out.trans (hb3.mono HBL.out.size))
  have HO3 := hide (hst.out.toBs.row.below hb3 (Nat.le_refl _))
  clear hb3 HBL hst hc hf
  generalize hq : (l0 == l1) = q
  have HQ := hide hq
  clear hq
  go_wp2_with fail
  refine (eqs_big a0 cap0 l0 a1 cap1 l1 l0.length l1.length w3 (H0.out.row.below HB3.out (Nat.le_refl _)) (H1.out.row.below HB3.out (Nat.le_refl _)) rfl rfl h0 h1).mono ?_
  rintro e w4 ⟨rfl, hb4⟩
  have HB4 := hide (HB3.out.trans (hb4.mono HB3.out.size))
  have HO4 := hide (HO3.out.below hb4 (Nat.le_refl _))
  clear hb4 HB3 HO3
  rw [HQ.out]
  go_wp2_with fail
  refine (same_any a0 cap0 l0 a0 cap0 l0 l0.length l0.length w4 (H0.out.row.below HB4.out (Nat.le_refl _)) (H0.out.row.below HB4.out (Nat.le_refl _)) rfl rfl h0 h0).mono ?_
  rintro e w5 ⟨rfl, hb5⟩
  have HB5 := hide (HB4.out.trans (hb5.mono HB4.out.size))
  have HO5 := hide (HO4.out.below hb5 (Nat.le_refl _))
  clear hb5 HB4 HO4
  rw [show (l0 == l0) = true by simp]
  have hz0 : ((l0.length : Int) == 0) = false := beq_eq_false_iff_ne.2 (by omega)
  go_wp2_with fail
  refine (same_any a0 cap0 l0 _ cap2 (r.set I c) l0.length l0.length w5 (H0.out.row.below HB5.out (Nat.le_refl _)) HO5.out rfl hsl h0 h0).mono ?_
  rintro e w6 ⟨rfl, hb6⟩
  have HB6 := hide (HB5.out.trans (hb6.mono HB5.out.size))
  clear hb6 HB5 HO5
  rw [HR.out, HNE.out]
  go_wp2_with fail
  refine (awake_any _ (HT.out.below HB6.out HT.out.big)).mono ?_
  rintro e w7 ⟨rfl, hb7⟩
  have HB7 := hide (HB6.out.trans (hb7.mono HB6.out.size))
  clear hb7
  go_wp2
  go_ret
  exact ⟨rfl, HB7.out⟩
theorem digestSame_walk (a0 : Option Addr) (cap0 : Nat) (l0 : List UInt8) (a1 : Option Addr) (cap1 : Nat) (l1 : List UInt8) (z : Int) (w : World) (w0 : Bs w a0 cap0 l0) (w1 : Bs w a1 cap1 l1) (h0 : l0.length ≤ 140737488355328) (h1 : l1.length ≤ 140737488355328) (hT : Tb w) :
    Calls Tryd.prog 8 #[.slice a0 l0.length cap0, .slice a1 l1.length cap1, .int .i64 z] w fun e w' => e = .returned (.bool true) ∧ Below w.heap.size w w' := by
  by_cases hp : 0 < l0.length
  · exact digestSame_some a0 cap0 l0 a1 cap1 l1 z w w0 w1 hp h0 h1 hT
  · obtain rfl : l0 = [] := List.length_eq_zero_iff.1 (by omega)
    exact digestSame_none a0 cap0 a1 cap1 l1 z w w0 w1 h1 hT
#print axioms digestSame_walk
end Go.Proofs.YtloadoekdbjnoaaDoor
