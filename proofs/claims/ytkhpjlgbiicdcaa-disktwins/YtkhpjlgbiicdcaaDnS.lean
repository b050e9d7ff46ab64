/-
  disk: slices.Equal of names; same.
-/
import Derived.Test.YtkhpjlgbiicdcaaDnI
set_option linter.unusedVariables false
namespace Go.Proofs.Ytkhpjlgbiicdcaa
open Go.RowKit Go.Maps

set_option maxRecDepth 20000 in
set_option maxHeartbeats 1000000 in
theorem eqs_any (a1 : Option Addr) (c1 : Nat) (a2 : Option Addr) (c2 : Nat) (l : List Nm) (w : World) (h1 : SRow w a1 l) (h2 : SRow w a2 l) (hl : l.length ≤ 1000000) :
    Calls Try.prog 28 #[.slice a1 l.length c1, .slice a2 l.length c2] w fun e w' => e = .returned (.bool true) ∧ Below w.heap.size w w' := by
  go_enter Try.func28, Try.ntmps28
  go_wp2
  go_loopw [13] (fun v wr => ∃ k : Nat, k ≤ l.length ∧ v = .int .i64 (k : Int) ∧ Hid (Below w.heap.size w wr)) (fun v _ => l.length - (intOf v).toNat)
  case atStart => exact ⟨0, Nat.zero_le _, rfl, Below.refl _ _⟩
  case round =>
    obtain ⟨k, hk, rfl, HB⟩ := hrel
    by_cases hlt : k < l.length
    · have hlt2 : (k : Int) < (l.length : Int) := by omega
      obtain ⟨s, hs⟩ : ∃ s, l[k]? = some s := ⟨_, List.getElem?_eq_getElem hlt⟩
      have hne : l ≠ [] := by intro e; subst e; simp at hs
      obtain ⟨b1, o1, rfl, k1⟩ := (h1.below (unhide HB) (Nat.le_refl _)) hne
      obtain ⟨b2, o2, rfl, k2⟩ := (h2.below (unhide HB) (Nat.le_refl _)) hne
      have d1 := k1 k s hs
      have d2 := k2 k s hs
      clear k1 k2 hs
      go_wp2
      go_quiet (fail)
      go_wp2
      go_roundw
      case rel => exact ⟨k + 1, by omega, by go_num, below_drewN (unhide HB) nq⟩
      case measure => simp [intOf]; omega
    · obtain rfl : k = l.length := by omega
      go_wp2
      go_ret
      exact ⟨rfl, unhide HB⟩

theorem there_of {M : Md} {n : Nm} (h : Inv M) (hn : M.seen n ≠ none) : M.thereE n = 0 := by
  unfold Md.thereE
  rw [if_pos (h.seen n hn), if_pos (by cases e : M.seen n; exact absurd e hn; rfl)]
theorem Nms.le {f : Files} {l : List Nm} (hf : Named f) (h : Nms f l) {n : Nm} (hn : n ∈ l) : n.length ≤ 24 := isName_le (hf n ((h.mem n).1 hn))
theorem there_eq {M M' : Md} {n : Nm} (h : M.seen n = M'.seen n) : M.thereE n = M'.thereE n := by unfold Md.thereE; rw [h]
theorem read_eq {M M' : Md} {n : Nm} (h : M.seen n = M'.seen n) : M.readB n = M'.readB n := by unfold Md.readB fget; rw [there_eq h, h]

set_option maxRecDepth 20000 in
set_option maxHeartbeats 2000000 in
theorem same_k (g : Nat → Tg) (i j A B : Nat) (M M' : Md) (N N' : Nat) (w : World) (hA : DK w g i A M N) (hB : DK w g j B M' N') (hN : N ≤ 1400) (hN' : N' ≤ 1400) (hI : Inv M) (he : M.seen = M'.seen) :
    Calls Try.prog 11 #[.pointer (some ⟨A, 0, none⟩), .pointer (some ⟨B, 0, none⟩)] w fun e w' => e = .returned (.bool true) ∧ Below w.heap.size w w' := by
  go_enter Try.func11, Try.ntmps11
  go_wp2_with fail
  refine (list_k g i A M N w hA (by omega)).mono ?_
  rintro e w1 ⟨p, c, l, rfl, n1, r1', hl1, b1⟩
  have r1 := r1'.srow
  go_wp2_with fail
  refine (list_k g j B M' N' w1 (hB.below b1) (by omega)).mono ?_
  rintro e w2 ⟨p', c', l', rfl, n2, r2', -, b2⟩
  have r2 := r2'.srow
  obtain rfl : l = l' := n1.uniq (by rw [he]; exact n2)
  have hll : l.length ≤ 1000000 := by omega
  go_wp2_with fail
  refine (eqs_any p c p' c' l w2 (r1.below b2 (Nat.le_refl _)) r2 hll).mono ?_
  rintro e w3 ⟨rfl, b3⟩
  have B1 := hide (b1.trans ((b2.trans (b3.mono b2.size)).mono b1.size))
  have R1 := hide (r1.below (b2.trans (b3.mono b2.size)) (Nat.le_refl _))
  have hle : ∀ n ∈ l, n.length ≤ 24 := fun n hn => n1.le hI.seen hn
  have hth : ∀ n ∈ l, M.thereE n = 0 := fun n hn => there_of hI ((n1.mem n).1 hn)
  have n1' := hide n1
  clear n1 n2 r1 r2 b1 b2 b3 r1' r2'
  go_wp2
  go_loopw [21] (fun v wr => ∃ k : Nat, k ≤ l.length ∧ v = .int .i64 (k : Int) ∧ Hid (Below w3.heap.size w3 wr)) (fun v _ => l.length - (intOf v).toNat)
  case atStart => exact ⟨0, Nat.zero_le _, rfl, Below.refl _ _⟩
  case round =>
    obtain ⟨k, hk, rfl, HB⟩ := hrel
    by_cases hlt : k < l.length
    · have hlt2 : (k : Int) < (l.length : Int) := by omega
      obtain ⟨s, hs⟩ : ∃ s, l[k]? = some s := ⟨_, List.getElem?_eq_getElem hlt⟩
      have hmem := List.mem_of_getElem? hs
      obtain ⟨b, o, hp, k1⟩ := ((unhide R1).below (unhide HB) (Nat.le_refl _)) (by intro e; subst e; simp at hs)
      have d1 := k1 k s hs
      subst hp
      have hs24 := hle s hmem
      have HT1 := hide (hth s hmem)
      have HT2 : Hid (M'.thereE s = 0) := by show _ = _; rw [← there_eq (congrFun he s)]; exact unhide HT1
      have HR := hide (read_eq (congrFun he s))
      have BW := hide ((unhide B1).trans ((unhide HB).mono (unhide B1).size))
      clear k1 hs hmem
      go_wp2_with fail
      refine (read_k g i A M N s wr (hA.below (unhide BW)) (by omega) (by unfold maxLen; omega)).mono ?_
      rintro e w4 ⟨y, cy, rfl, oy, b4⟩
      rw [unhide HT1]
      go_wp2_with fail
      refine (read_k g j B M' N' s w4 ((hB.below (unhide BW)).below b4) (by omega) (by unfold maxLen; omega)).mono ?_
      rintro e w5 ⟨y', cy', rfl, oy', b5⟩
      rw [unhide HT2]
      have OY := hide (oy.below b5 (Nat.le_refl _))
      have OY' := hide oy'
      have HB5 := hide (((unhide HB).trans (b4.mono (unhide HB).size)).trans (b5.mono (Nat.le_trans (unhide HB).size b4.size)))
      clear oy oy' b4 b5 d1
      go_wp2_with fail
      refine (equal_any y _ cy (M.readB s) y' _ cy' (M'.readB s) w5 (unhide OY).toBs.row (unhide OY').toBs.row rfl rfl).mono ?_
      rintro e w5' ⟨rfl, rfl⟩
      rw [show (M.readB s == M'.readB s) = true by rw [unhide HR]; simp]
      go_wp2
      go_roundw
      case rel => exact ⟨k + 1, by omega, by go_num, HB5⟩
      case measure => simp [intOf]; omega
    · obtain rfl : k = l.length := by omega
      go_wp2
      go_ret
      exact ⟨rfl, (unhide B1).trans ((unhide HB).mono (unhide B1).size)⟩
#print axioms same_k
end Go.Proofs.Ytkhpjlgbiicdcaa
