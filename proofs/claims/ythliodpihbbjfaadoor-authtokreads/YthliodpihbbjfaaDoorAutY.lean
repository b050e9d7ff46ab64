/-
  authtok: THE WALKS of the document's own Make, and of the statements' same.
-/
import Derived.Test.YthliodpihbbjfaaDoorAutX
set_option linter.unusedVariables false
set_option maxRecDepth 1000000
namespace Go.Proofs.YthliodpihbbjfaaDoor
open Go.RowKit

theorem cl_names' {x : Cl} (h : clOk x = 0) : x.c.length ≤ 24 ∧ x.g.length ≤ 24 := by
  unfold clOk at h
  split at h
  · rename_i hn
    rw [Bool.and_eq_true] at hn
    exact ⟨(nm_len hn.1).1, (nm_len hn.2).1⟩
  · omega
theorem ok_ne' {L : List Sec} (h : ckOk L = true) : L ≠ [] := by
  simp only [ckOk, Bool.and_eq_true, decide_eq_true_eq] at h
  exact h.1.1
set_option maxHeartbeats 8000000 in
theorem rmake_any (p : Option Addr) (cp : Nat) (L : List Sec) (c g : List UInt8) (u : Int) (w : World) (h : SecR w p L) (hl : L.length ≤ 140737488355328) (hc : c.length ≤ 100000) (hg : g.length ≤ 100000) (hu0 : -9223372036854775808 ≤ u) (hu1 : u ≤ 9223372036854775807) :
    Calls Tryd.prog 12 #[.slice p L.length cp, .agg #[.string (str c), .string (str g), .int .i64 u]] w fun e w' => ∃ (E : Int) (t : List UInt8), e = .returned (.tuple #[.string (str t), .int .i64 E]) ∧ Hid ((E, t) = mkT L ⟨c, g, u⟩) ∧ Hid (Below w.heap.size w w') := by
  have HS := hide h
  clear h
  go_enter Tryd.func12, Tryd.ntmps12
  go_wp2_with fail
  have HI1 : Hid (InvS w w.heap.size c g u (w.alloc (.cells #[.string (str c), .string (str g), .int .i64 u] 24))) := ⟨(Below.refl _ _).alloc (Nat.le_refl _) _, ClC.new w c g u⟩
  generalize w.alloc (.cells #[.string (str c), .string (str g), .int .i64 u] 24) = w1 at *
  refine (rcheck_any p cp L w1 (HS.out.below HI1.out.1 (Nat.le_refl _)) hl).mono ?_
  rintro e w2 ⟨rfl, hb2⟩
  have HI2 := hide (HI1.out.next hb2.out)
  clear hb2 HI1
  cases hck : ckOk L with
  | false =>
    have HM : Hid (((102 : Int), ([] : List UInt8)) = mkT L ⟨c, g, u⟩) := by show _ = _; unfold mkT; rw [if_pos hck]
    go_wp2
    go_ret2
    exact ⟨102, [], rfl, HM, HI2.out.1⟩
  | true =>
  have HCK := hide hck
  clear hck
  obtain ⟨k0, k1, k2⟩ := HI2.out.2
  go_wp2_with fail
  refine (rclaim_any c g u w2 hc hg).mono ?_
  rintro e w3 ⟨E, rfl, hE, hb3⟩
  have HI3 := hide (HI2.out.next hb3.out)
  clear hb3 HI2 k0 k1 k2
  by_cases hE0 : E = 0
  · subst hE0
    have hcl := hE.out.symm
    have hn := cl_names' hcl
    have hlg := last_get L (ok_ne' HCK.out)
    obtain ⟨N, hN⟩ : ∃ N, L.length = N + 1 := ⟨L.length - 1, by have := List.length_pos_iff.2 (ok_ne' HCK.out); omega⟩
    rw [show L.length - 1 = N by omega] at hlg
    have HM : Hid (((0 : Int), tok (lastS L) ⟨c, g, u⟩) = mkT L ⟨c, g, u⟩) := by
      show _ = _
      unfold mkT
      rw [if_neg (by rw [HCK.out]; simp), if_neg (by rw [hcl]; simp)]
    have hmem := ckOk_mem HCK.out _ (List.mem_of_getElem? hlg)
    obtain ⟨b, off, x, cx, rfl, c0, c1, hB, hbl⟩ := (HS.out.below HI3.out.1 (Nat.le_refl _)).at hlg
    clear hlg hcl hE
    generalize lastS L = s at *
    obtain ⟨id, bt⟩ := s
    simp only at c0 c1 hB hmem
    have HBT := hide hB
    clear hB
    have hN1 : (L.length : Int) - 1 = (N : Int) := by omega
    have hN2 : (N : Int) < (L.length : Int) := by omega
    have hN3 : IntKind.i64.wrap (N : Int) = (N : Int) := by rw [IntKind.wrap_i64]; omega
    have HTK : Hid (∀ W, Hid (InvS w3 w.heap.size c g u W) → Calls Tryd.prog 31 #[.agg #[.int .i64 id, .slice x bt.length cx], .agg #[.string (str c), .string (str g), .int .i64 u]] W fun e W' => ∃ T, e = .returned (.string (str T)) ∧ Hid (T = tok (id, bt) ⟨c, g, u⟩) ∧ Hid (InvS w3 w.heap.size c g u W')) := by
      intro W h
      refine (rtoken_any id x cx bt c g u W (HBT.out.below h.out.1 (Nat.le_refl _)) hmem.2.2 (by omega) (by omega) hu0 hu1 hn.1 hn.2).mono ?_
      rintro e W' ⟨T, rfl, h1, h2⟩
      exact ⟨T, rfl, h1, h.out.next h2.out⟩
    have HI4 : Hid (InvS w3 w.heap.size c g u w3.drew) := ⟨(Below.refl _ _).drew, HI3.out.2.below (Below.refl w3.heap.size w3).drew (Nat.le_refl _)⟩
    have HB3 : Hid (Below w.heap.size w w3) := HI3.out.1
    obtain ⟨k0, k1, k2⟩ := HI3.out.2
    clear HI3 hmem hN hn
    go_wp2
    go_region_with (go_at_call 31; refine (HTK.out _ (by assumption)).mono ?_; rintro e w5 ⟨T, rfl, hT5, hI5⟩)
    all_goals
      go_wp2
      go_ret2
      exact ⟨0, T, rfl, (by show _ = _; rw [hT5.out]; exact HM.out), HB3.out.trans (hI5.out.1.mono HB3.out.size)⟩
  · have hEn : (E != 0) = true := by simp [hE0]
    have hEq : (E == 0) = false := by simp [hE0]
    have HM : Hid ((E, ([] : List UInt8)) = mkT L ⟨c, g, u⟩) := by
      show _ = _
      unfold mkT
      rw [if_neg (by rw [HCK.out]; simp), ← hE.out, if_pos hE0]
    go_wp2
    go_ret2
    exact ⟨E, [], rfl, HM, HI3.out.1⟩

set_option maxHeartbeats 4000000 in
theorem same1_any (id : Int) (a : Option Addr) (ca : Nat) (b : Option Addr) (cb : Nat) (l : List UInt8) (w : World) (h1 : Bs w a ca l) (h2 : Bs w b cb l) :
    Calls Tryd.prog 34 #[.agg #[.int .i64 id, .slice a l.length ca], .agg #[.int .i64 id, .slice b l.length cb]] w fun e w' => e = .returned (.bool true) ∧ Hid (Below w.heap.size w w') := by
  have H1 := hide (((h1.alloc (.cells #[.int .i64 id, .slice a l.length ca] 52))).alloc (.cells #[.int .i64 id, .slice b l.length cb] 52))
  have H2 := hide (((h2.alloc (.cells #[.int .i64 id, .slice a l.length ca] 52))).alloc (.cells #[.int .i64 id, .slice b l.length cb] 52))
  have HB : Hid (Below w.heap.size w ((w.alloc (.cells #[.int .i64 id, .slice a l.length ca] 52)).alloc (.cells #[.int .i64 id, .slice b l.length cb] 52))) := ((Below.refl _ _).alloc (Nat.le_refl _) _).alloc (by simp) _
  clear h1 h2
  go_enter Tryd.func34, Tryd.ntmps34
  go_wp2_with fail
  refine (equal_any a l.length ca l b l.length cb l _ H1.out.row H2.out.row rfl rfl).mono ?_
  rintro e w3 ⟨rfl, rfl⟩
  rw [show (l == l) = true by simp]
  go_wp2
  go_ret
  exact ⟨rfl, HB⟩

set_option maxHeartbeats 8000000 in
theorem eqf_secs (p : Option Addr) (cp : Nat) (p2 : Option Addr) (cp2 : Nat) (L : List Sec) (w : World) (h : SecR w p L) (h2 : SecR w p2 L) (hl : L.length ≤ 140737488355328) :
    Calls Tryd.prog 33 #[.slice p L.length cp, .slice p2 L.length cp2, .func (.func 34) #[] #[]] w fun e w' => e = .returned (.bool true) ∧ Hid (Below w.heap.size w w') := by
  have HS := hide h
  have HS2 := hide h2
  have hq : ((L.length : Int) != (L.length : Int)) = false := by simp
  clear h h2
  go_enter Tryd.func33, Tryd.ntmps33
  go_wp2
  go_loopw [17] (fun v wr => ∃ i : Nat, i ≤ L.length ∧ v = .int .i64 (i : Int) ∧ Hid (Below w.heap.size w wr)) (fun v _ => L.length - (intOf v).toNat)
  case atStart => exact ⟨0, Nat.zero_le _, rfl, Below.refl _ _⟩
  case round =>
    obtain ⟨i, hi, rfl, hb⟩ := hrel
    by_cases hlt : i < L.length
    · obtain ⟨s, hs⟩ : ∃ s, L[i]? = some s := ⟨_, List.getElem?_eq_getElem hlt⟩
      obtain ⟨b, off, x, cx, rfl, c0, c1, hB, hbl⟩ := (HS.out.below hb.out (Nat.le_refl _)).at hs
      obtain ⟨b2, off2, x2, cx2, rfl, d0, d1, hB2, hbl2⟩ := (HS2.out.below hb.out (Nat.le_refl _)).at hs
      obtain ⟨id, bt⟩ := s
      simp only at c0 c1 d0 d1 hB hB2
      have HBa := hide hB
      have HBb := hide hB2
      have hi2 : (i : Int) < (L.length : Int) := by omega
      clear hs hB hB2
      go_wp2_with fail
      refine (same1_any id x cx x2 cx2 bt _ ((HBa.out.alloc _).alloc _) ((HBb.out.alloc _).alloc _)).mono ?_
      rintro e w3 ⟨rfl, hb3⟩
      have HB3 : Hid (Below w.heap.size w w3) := ((hb.out.alloc hb.out.size _).alloc (by have := hb.out.size; simp; omega) _).trans (hb3.out.mono (by have := hb.out.size; simp; omega))
      clear hb3 c0 c1 d0 d1
      go_wp2
      go_roundw
      case rel => exact ⟨i + 1, by omega, by go_num, HB3⟩
      case measure => simp [intOf]; omega
    · obtain rfl : i = L.length := by omega
      go_wp2
      go_ret
      exact ⟨rfl, hb⟩
set_option maxHeartbeats 2000000 in
theorem sames_any (p : Option Addr) (cp : Nat) (p2 : Option Addr) (cp2 : Nat) (L : List Sec) (w : World) (h : SecR w p L) (h2 : SecR w p2 L) (hl : L.length ≤ 140737488355328) :
    Calls Tryd.prog 17 #[.slice p L.length cp, .slice p2 L.length cp2] w fun e w' => e = .returned (.bool true) ∧ Hid (Below w.heap.size w w') := by
  have HC := hide (eqf_secs p cp p2 cp2 L w h h2 hl)
  clear h h2
  go_enter Tryd.func17, Tryd.ntmps17
  go_wp2_with (go_at_call 33; refine HC.out.mono ?_; rintro e w2 ⟨rfl, hb2⟩)
  go_ret
  exact ⟨rfl, hb2⟩
#print axioms sames_any
end Go.Proofs.YthliodpihbbjfaaDoor
