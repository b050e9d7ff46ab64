/-
  THE WALK of DigestSame: bytes of any number that a machine can hold.
-/
import Derived.Test.YthhcaalafacjlaaDoorPkAetsar
import Derived.Test.YthhcaalafacjlaaDoorPkAetsam
section
set_option linter.unusedVariables false
namespace Go.Proofs.YthhcaalafacjlaaDoor
open Go.RowKit

theorem or0 (x y : UInt8) : x ||| y = 0 ↔ x = 0 ∧ y = 0 := by
  constructor
  · intro h
    have h2 : x.toNat ||| y.toNat = 0 := by rw [← UInt8.toNat_or, h]; rfl
    have h3 := Nat.or_eq_zero_iff.1 h2
    exact ⟨UInt8.toNat_inj.1 h3.1, UInt8.toNat_inj.1 h3.2⟩
  · rintro ⟨rfl, rfl⟩; rfl
theorem u8o (a b : UInt8) : bits .or .u8 (a.toNat : Int) (b.toNat : Int) = ((a ||| b).toNat : Int) := by
  rw [u8_or_nat _ _ a.toNat_lt b.toNat_lt, UInt8.toNat_or]
theorem eq_take_succ (l1 l2 : List UInt8) (k : Nat) (h1 : k < l1.length) (h2 : k < l2.length) : l1.take (k + 1) = l2.take (k + 1) ↔ l1.take k = l2.take k ∧ l1.getD k 0 = l2.getD k 0 := by
  have e1 : l1.take (k + 1) = l1.take k ++ [l1.getD k 0] := by rw [List.take_add_one]; simp [h1]
  have e2 : l2.take (k + 1) = l2.take k ++ [l2.getD k 0] := by rw [List.take_add_one]; simp [h2]
  rw [e1, e2]
  constructor
  · intro h
    have := List.append_inj h (by simp; omega)
    exact ⟨this.1, by simpa using this.2⟩
  · rintro ⟨h3, h4⟩
    rw [h3, h4]

set_option maxHeartbeats 2000000 in
theorem same_any (a1 : Option Addr) (cap1 : Nat) (l1 : List UInt8) (a2 : Option Addr) (cap2 : Nat) (l2 : List UInt8) (n1 n2 : Nat) (w : World) (h1 : Row w a1 l1) (h2 : Row w a2 l2) (E1 : Hid (n1 = l1.length)) (E2 : Hid (n2 = l2.length)) (hl1 : n1 ≤ 140737488355328) (hl2 : n2 ≤ 140737488355328) :
    Calls Tryd.prog 53 #[.slice a1 n1 cap1, .slice a2 n2 cap2] w fun e w' => e = .returned (.bool (l1 == l2)) ∧ Below w.heap.size w w' := by
  by_cases hl : n1 = n2
  · subst hl
    go_enter Tryd.func53, Tryd.ntmps53
    go_wp2
    go_loopw [5, 14] (fun o i wr => ∃ (k : Nat) (x : UInt8), k ≤ n1 ∧ i = .int .i64 (k : Int) ∧ o = .int .u8 (x.toNat : Int) ∧ Hid (x = 0 ↔ l1.take k = l2.take k) ∧ Below w.heap.size w wr) (fun _ i _ => n1 - (intOf i).toNat)
    case atStart => exact ⟨0, 0, Nat.zero_le _, rfl, rfl, (by show _ ↔ _; simp), Below.refl _ _⟩
    case round =>
      obtain ⟨k, x, hk, rfl, rfl, HT, hb⟩ := hrel
      by_cases hlt : k < n1
      · have hk1 : k < l1.length := by have := unhide E1; omega
        have hk2 : k < l2.length := by have := unhide E2; omega
        obtain ⟨b1, o1, ea1, hc1⟩ := (h1.below hb (Nat.le_refl _)) (by intro e; subst e; simp at hk1)
        obtain ⟨b2, o2, ea2, hc2⟩ := (h2.below hb (Nat.le_refl _)) (by intro e; subst e; simp at hk2)
        subst ea1
        subst ea2
        have k1 := hc1 k hk1
        have k2 := hc2 k hk2
        have hlt2 : (k : Int) < (n1 : Int) := by omega
        have HTS := hide (eq_take_succ l1 l2 k hk1 hk2)
        generalize l1.getD k 0 = y1 at *
        generalize l2.getD k 0 = y2 at *
        have x1 := u8x y1 y2
        obtain ⟨z, hz⟩ : ∃ z, y1 ^^^ y2 = z := ⟨_, rfl⟩
        rw [hz] at x1
        have x2 := u8o x z
        obtain ⟨v, hv⟩ : ∃ v, x ||| z = v := ⟨_, rfl⟩
        rw [hv] at x2
        have HV : Hid (v = 0 ↔ l1.take (k + 1) = l2.take (k + 1)) := by
          show _ ↔ _
          rw [HTS.out, ← hv, or0, ← hz, UInt8.xor_eq_zero_iff, HT.out]
        clear hz hv hc1 hc2 HTS
        go_wp2_with fail
        go_quiet (fail)
        go_wp2
        go_roundw
        case rel => exact ⟨k + 1, v, by omega, by go_num, rfl, HV, below_drewN hb nq⟩
        case measure => simp [intOf]; omega
      · obtain rfl : k = n1 := by omega
        have HF : Hid ((l1 == l2) = ((x.toNat : Int) == 0)) := by
          show _ = _
          have e1 := unhide HT
          rw [List.take_of_length_le (by have := unhide E1; omega), List.take_of_length_le (by have := unhide E2; omega)] at e1
          rw [Bool.eq_iff_iff]
          simp only [beq_iff_eq]
          rw [← e1]
          constructor
          · rintro rfl; rfl
          · intro h; exact UInt8.toNat_inj.1 (by simpa using h)
        go_wp2
        go_ret
        exact ⟨by rw [unhide HF]; rfl, hb⟩
  · have HF : Hid ((l1 == l2) = false) := by
      show _ = _
      simp only [beq_eq_false_iff_ne, ne_eq]
      intro e
      apply hl
      rw [unhide E1, unhide E2, e]
    have hd : ((n1 : Int) != (n2 : Int)) = true := by simp; omega
    go_enter Tryd.func53, Tryd.ntmps53
    go_wp2
    go_ret
    exact ⟨by rw [unhide HF]; rfl, Below.refl _ _⟩
set_option maxHeartbeats 400000 in
theorem sclone_big (a : Option Addr) (n cap : Nat) (l : List UInt8) (w : World) (hr : Bs w a cap l) (hn : n = l.length) (hl : l.length ≤ 140737488355328) :
    Calls Tryd.prog 19 #[.slice a n cap] w fun e w' => ∃ a' cap' r, e = .returned (.slice a' r.length cap') ∧ Hid (r = l) ∧ OwnB w' w.heap.size a' cap' r ∧ Below w.heap.size w w' := by
  have hq := fun (wx : World) (a : Option Addr) (n c : Nat) => Lib.run_eql_slice_nil (P := Tryd.prog) wx 40 5 a n c 0 0 Tryd.underlying40
  cases a with
  | none =>
    have hl0 : l = [] := by
      apply Classical.byContradiction
      intro hne
      obtain ⟨b, off, hh, _⟩ := hr.row hne
      cases hh
    subst hl0
    go_enter Tryd.func19, Tryd.ntmps19
    go_wp2
    go_ret
    exact ⟨none, 0, [], rfl, rfl, OwnB.nil _ _, Below.refl _ _⟩
  | some ad =>
    subst hn
    go_enter Tryd.func19, Tryd.ntmps19
    go_wp2_with (at_builtin; refine wp_app _ rfl _ _ rfl w.heap.size (some ⟨w.heap.size, 0, none⟩) 0 [] rfl (own_empty w _ (Nat.le_refl _)) (some ad) cap l _ rfl rfl (hr.row.alloc _) (fun h => by cases h) ?c3 ?c4 ?_)
    case c3 => simp; omega
    case c4 => simp
    intro a2 cap2 r2 w2 hr2 ho2 hg2
    have hb2 : Below w.heap.size w w2 := below_grown (a := some ⟨w.heap.size, 0, none⟩) ((Below.refl _ _).alloc (Nat.le_refl _) _) hg2 (Nat.le_refl _) (fun k hk => by simp [blk] at hk; omega)
    have HR : Hid (r2 = l) := by
      show _ = _
      rw [hr2.out]
    clear hr2 hg2
    go_wp2
    go_ret
    exact ⟨a2, cap2, r2, rfl, HR, ho2, hb2⟩
#print axioms sclone_big
end Go.Proofs.YthhcaalafacjlaaDoor
end
