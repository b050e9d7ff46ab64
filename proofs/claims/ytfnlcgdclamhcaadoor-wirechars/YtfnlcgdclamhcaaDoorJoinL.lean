/-
  THE WALK OF WireJoined.
-/
import Derived.Test.YtfnlcgdclamhcaaDoorChaW
import Derived.Lib.SlBytesConst
set_option linter.unusedVariables false
namespace Go.Proofs.YtfnlcgdclamhcaaDoor
open Go.RowKit

theorem chI_some {l : List UInt8} {x : Nat} (h : chr l = some x) : chI l = (x : Int) := by unfold chI; rw [h]
theorem chI_none {l : List UInt8} (h : chr l = none) : chI l = -1 := by unfold chI; rw [h]

theorem join_fact (a b : List UInt8) :
    (chI a = -1 ∧ ((chI b = -1 ∧ chI (a ++ b) = -1) ∨ ∃ y : Nat, chI b = (y : Int) ∧ y < b.length ∧ chI (a ++ b) = (a.length : Int) + (y : Int))) ∨
    ∃ x : Nat, chI a = (x : Int) ∧ x < a.length ∧ (chI (a ++ b) = (x : Int) ∨ (a.length ≤ x + 3 ∧ (chI (a ++ b) = -1 ∨ ∃ y : Nat, chI (a ++ b) = (y : Int) ∧ x < y))) := by
  cases ha : chr a with
  | none =>
    left
    refine ⟨chI_none ha, ?_⟩
    have e := chr_none_append a.length a b (Nat.le_refl _) ha
    cases hb : chr b with
    | none => left; rw [hb] at e; exact ⟨chI_none hb, chI_none e⟩
    | some y =>
      right; rw [hb] at e
      exact ⟨y, chI_some hb, chr_lt b.length b (Nat.le_refl _) y hb, by rw [chI_some e]; simp only; omega⟩
  | some x =>
    right
    refine ⟨x, chI_some ha, chr_lt a.length a (Nat.le_refl _) x ha, ?_⟩
    rcases chr_some_append a.length a b (Nat.le_refl _) x ha with h | ⟨h1, h | ⟨y, h, h2⟩⟩
    · exact .inl (chI_some h)
    · exact .inr ⟨h1, .inl (chI_none h)⟩
    · exact .inr ⟨h1, .inr ⟨y, chI_some h, h2⟩⟩

theorem litB (w : World) (c : UInt8) (m : Nat × Nat) : Bs (w.alloc (.cells #[.int .u8 (c.toNat : Int)] 5 m)) (some ⟨w.heap.size, 0, none⟩) 1 [c] := by
  refine ⟨?_, by simp, by unfold maxLen; omega, fun h => by cases h⟩
  intro _
  refine ⟨w.heap.size, 0, rfl, fun i hi => ?_⟩
  have hi' : i = 0 := by simp at hi; exact hi
  subst hi'
  rw [World.cell?_alloc_mark]
  rfl
theorem chI_a : chI [97] = -1 := by
  apply chI_none
  rw [chr_go _ (by simp) (by simp [d4, Lib.decodeN])]
  simp [d4, Lib.decodeN, chr_nil]
theorem chI_ff : chI [255] = 0 := by
  have := chI_some (chr_bad [255] (by simp) (by simp [d4, Lib.decodeN]))
  simpa using this

theorem tabs_alloc {w : World} (h : Tabs w) (o : Obj) : Tabs (w.alloc o) := Utf8Tabs_below h ((Below.refl _ _).alloc (Nat.le_refl _) o)

set_option maxHeartbeats 1000000 in
theorem wireJoined_big (a0 : Option Addr) (cap0 : Nat) (l0 : List UInt8) (a1 : Option Addr) (cap1 : Nat) (l1 : List UInt8) (w : World) (hT : Tabs w) (h0 : l0.length ≤ maxLen) (h1 : l1.length ≤ maxLen) (hb : 262144 < l0.length ∨ 262144 < l1.length) :
    Calls Tryd.prog 4 #[.slice a0 l0.length cap0, .slice a1 l1.length cap1] w fun e w' => e = .returned (.bool true) ∧ Below w.heap.size w w' := by
  unfold maxLen at h0 h1
  have hc := hide (chars_any (some ⟨w.heap.size, 0, none⟩) 1 1 [255] _ (tabs_alloc hT (.cells #[.int .u8 255] 5)) (litB w 255 _) rfl (by simp))
  rw [chI_ff] at hc
  clear hT
  by_cases hb0 : 262144 < l0.length
  · clear hb
    go_enter Tryd.func4, Tryd.ntmps4
    go_wp2_with fail
    refine (unhide hc).mono ?_
    rintro e w1 ⟨rfl, hb1⟩
    have hW : Below w.heap.size w w1 := ((Below.refl _ _).alloc (Nat.le_refl _) _).trans (hb1.mono (by simp))
    clear hb1 hc
    go_wp2
    go_ret
    exact ⟨rfl, hW⟩
  · have hb1 : 262144 < l1.length := by omega
    clear hb
    go_enter Tryd.func4, Tryd.ntmps4
    go_wp2_with fail
    refine (unhide hc).mono ?_
    rintro e w1 ⟨rfl, hb1⟩
    have hW : Below w.heap.size w w1 := ((Below.refl _ _).alloc (Nat.le_refl _) _).trans (hb1.mono (by simp))
    clear hb1 hc
    go_wp2
    go_ret
    exact ⟨rfl, hW⟩

set_option maxHeartbeats 2000000 in
theorem wireJoined_small (a0 : Option Addr) (cap0 : Nat) (l0 : List UInt8) (a1 : Option Addr) (cap1 : Nat) (l1 : List UInt8) (w : World) (hT : Tabs w) (p0 : Bs w a0 cap0 l0) (p1 : Bs w a1 cap1 l1) (h0 : ¬ 262144 < l0.length) (h1 : ¬ 262144 < l1.length) :
    Calls Tryd.prog 4 #[.slice a0 l0.length cap0, .slice a1 l1.length cap1] w fun e w' => e = .returned (.bool true) ∧ Below w.heap.size w w' := by
  have kc := fun (w : World) (C : Array Value) (n c : Nat) => Lib.run_convert_bytes_const (P := Tryd.prog) w 22 5 C n c Tryd.underlying22 Tryd.underlying5
  have hc := hide (chars_any (some ⟨w.heap.size, 0, none⟩) 1 1 [97] _ (tabs_alloc hT (.cells #[.int .u8 97] 5 (1, 2))) (litB w 97 _) rfl (by simp))
  rw [chI_a] at hc
  have HT := hide hT
  clear hT
  obtain ⟨A, eA⟩ : ∃ A, chI l0 = A := ⟨_, rfl⟩
  obtain ⟨B, eB⟩ : ∃ B, chI l1 = B := ⟨_, rfl⟩
  obtain ⟨C, eC⟩ : ∃ C, chI (l0 ++ l1) = C := ⟨_, rfl⟩
  have JF := hide (join_fact l0 l1)
  rw [eA, eB, eC] at JF
  have EA := hide eA
  have EB := hide eB
  have EC := hide eC
  clear eA eB eC
  go_enter Tryd.func4, Tryd.ntmps4
  go_wp2_with fail
  refine (unhide hc).mono ?_
  rintro e w1 ⟨rfl, hb1⟩
  have hW1 : Below w.heap.size w w1 := ((Below.refl _ _).alloc (Nat.le_refl _) _).trans (hb1.mono (by simp))
  clear hb1 hc kc
  have Ka0 := hide (chars_any a0 _ cap0 l0 w1 (Utf8Tabs_below (unhide HT) hW1) (p0.below hW1 (Nat.le_refl _)) rfl (by omega))
  rw [unhide EA] at Ka0
  go_wp2_with fail
  refine (unhide Ka0).mono ?_
  rintro e w2 ⟨rfl, hb2⟩
  have hW2 := hW1.trans (hb2.mono hW1.size)
  clear hb2 hW1 Ka0
  have Ka1 := hide (chars_any a1 _ cap1 l1 w2 (Utf8Tabs_below (unhide HT) hW2) (p1.below hW2 (Nat.le_refl _)) rfl (by omega))
  rw [unhide EB] at Ka1
  go_wp2_with fail
  refine (unhide Ka1).mono ?_
  rintro e w3 ⟨rfl, hb3⟩
  have hW3 := hW2.trans (hb3.mono hW2.size)
  clear hb3 hW2 Ka1
  have q1 : (w3.alloc (.cells #[.slice a0 l0.length cap0, .slice a1 l1.length cap1] 22)).cell? ⟨w3.heap.size, 0, none⟩ = some (.slice a0 l0.length cap0) := by rw [cell_of_row _ w3.heap.size 0 _ _ _ (heap_alloc_new w3 _)]; rfl
  have q2 : (w3.alloc (.cells #[.slice a0 l0.length cap0, .slice a1 l1.length cap1] 22)).cell? ⟨w3.heap.size, 1, none⟩ = some (.slice a1 l1.length cap1) := by rw [cell_of_row _ w3.heap.size 1 _ _ _ (heap_alloc_new w3 _)]; rfl
  have HC := hide (concat_two w3.heap.size a0 cap0 l0 a1 cap1 l1 _ ((p0.below hW3 (Nat.le_refl _)).alloc _) ((p1.below hW3 (Nat.le_refl _)).alloc _) q1 q2 (by omega) (by omega))
  clear q1 q2
  go_wp2_with fail
  refine (unhide HC).mono ?_
  rintro e w4 ⟨a4, cap4, r, rfl, hr, ho4, hb4⟩
  have hW4 : Below w.heap.size w w4 := (hW3.alloc hW3.size _).trans (hb4.mono (by have := hW3.size; simp; omega))
  have hre := unhide hr
  have hrl : r.length ≤ 50000000 := by rw [hre]; simp; omega
  clear hb4 HC hr hW3
  have K4 := hide (chars_any a4 _ cap4 r w4 (Utf8Tabs_below (unhide HT) hW4) ho4.toBs rfl hrl)
  have EC2 := unhide EC
  rw [← hre] at EC2
  rw [EC2] at K4
  clear EC2 hre EA EB EC
  go_wp2_with fail
  refine (unhide K4).mono ?_
  rintro e w5 ⟨rfl, hb5⟩
  have hW5 := hW4.trans (hb5.mono hW4.size)
  clear hb5 hW4 ho4 hrl HT K4
  have hl0 : l0.length ≤ 262144 := by omega
  have hl1 : l1.length ≤ 262144 := by omega
  rcases unhide JF with ⟨rfl, ⟨rfl, rfl⟩ | ⟨y, rfl, hy, rfl⟩⟩ | ⟨x, rfl, hx, rfl | ⟨hx3, rfl | ⟨y, rfl, hxy⟩⟩⟩
  · clear JF
    go_wp2
    go_ret
    exact ⟨rfl, hW5⟩
  · clear JF
    go_wp2
    go_ret
    exact ⟨by first | rfl | (congr 2; simp), hW5⟩
  · clear JF
    go_wp2
    go_ret
    exact ⟨rfl, hW5⟩
  · clear JF
    have hne : ((-1 : Int) == (x : Int)) = false := by simp
    go_wp2
    go_ret
    exact ⟨rfl, hW5⟩
  · clear JF
    have hne : ((y : Int) == (x : Int)) = false := by simp; omega
    go_wp2
    go_ret
    exact ⟨rfl, hW5⟩

theorem wireJoined_walk (a0 : Option Addr) (cap0 : Nat) (l0 : List UInt8) (a1 : Option Addr) (cap1 : Nat) (l1 : List UInt8) (w : World) (p0 : Bs w a0 cap0 l0) (p1 : Bs w a1 cap1 l1) (hT : Tabs w) :
    Calls Tryd.prog 4 #[.slice a0 l0.length cap0, .slice a1 l1.length cap1] w fun e w' => e = .returned (.bool true) ∧ Below w.heap.size w w' := by
  by_cases h : 262144 < l0.length ∨ 262144 < l1.length
  · exact wireJoined_big a0 cap0 l0 a1 cap1 l1 w hT (Nat.le_trans p0.le p0.most) (Nat.le_trans p1.le p1.most) h
  · exact wireJoined_small a0 cap0 l0 a1 cap1 l1 w hT p0 p1 (by omega) (by omega)
#print axioms wireJoined_walk
end Go.Proofs.YtfnlcgdclamhcaaDoor
