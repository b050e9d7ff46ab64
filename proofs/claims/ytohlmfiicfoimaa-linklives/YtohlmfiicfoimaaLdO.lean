/-
  LinkLives: THE WALK.
-/
import Derived.Test.YtohlmfiicfoimaaLdN
set_option linter.unusedVariables false
set_option maxRecDepth 100000
namespace Go.Proofs.Ytohlmfiicfoimaa
open Go.RowKit Go.Maps

set_option maxHeartbeats 8000000 in
theorem linkLives_walk (p : Option Addr) (cp : Nat) (l : List Dl) (w : World) (h1 : DlR w p l) :
    Calls Try.prog 3 #[.slice p l.length cp] w fun e w' => e = .returned (.bool true) ∧ Below w.heap.size w w' := by
  have hle := h1.le
  unfold maxLen at hle
  have H1 := hide h1
  clear h1
  go_enter Try.func3, Try.ntmps3
  go_wp2_with fail
  refine (short_l p cp l w (unhide H1)).mono ?_
  rintro e w1 ⟨hw1, rfl | ⟨rfl, HS1⟩⟩
  · have hw1 := hw1.symm
    subst hw1
    go_wp2_with (go_at_call 7; refine (awake_true w).mono ?_; rintro e w2 ⟨rfl, hb2⟩)
    go_ret
    exact ⟨rfl, hb2⟩
  have hw1 := hw1.symm
  subst hw1
  go_wp2_with fail
  refine (new_net w).mono ?_
  rintro e w1 ⟨N, bm, rfl, n1, n2, n3, n4, n5⟩
  have HN0 : Hid (NQ w (w1.alloc (.cells #[.slice none 0 0, .int .i64 0] 30)) N bm w1.heap.size ⟨[], 0⟩ ⟨[], 0⟩ ((0 + 0) * 262144) (fun _ => False)) := nq_init n1 n2 n3 n4 n5
  obtain ⟨X, hX⟩ : ∃ X, X = w1.heap.size := ⟨_, rfl⟩
  rw [← hX] at HN0
  clear n1 n2 n3 n4 n5
  go_wp2_with fail
  rw [← hX]
  clear hX
  go_loopw [16] (fun v wr => ∃ (k : Nat) (Mk : Nm), k ≤ l.length ∧ v = .int .i64 (k : Int) ∧ Hid (NQ w wr N bm X Mk Mk ((0 + k) * 262144) (fun _ => False)) ∧ Hid (Mok Mk ∧ Mk.last ≤ 0 + k)) (fun v _ => l.length - (intOf v).toNat)
  case atStart => exact ⟨0, ⟨[], 0⟩, Nat.zero_le _, rfl, HN0, hide ⟨mok_empty, Nat.le_refl _⟩⟩
  case round =>
    obtain ⟨k, Mk, hk, rfl, HN, HOK⟩ := hrel
    by_cases hlt : k < l.length
    · obtain ⟨d, hd⟩ : ∃ d, l[k]? = some d := ⟨_, List.getElem?_eq_getElem hlt⟩
      have hk200 : k < 200 := by have := (unhide HS1).1; omega
      have hbl := (unhide HS1).2 k d hd
      have hbel := (unhide HN).bel
      obtain ⟨b, off, hpe, hc⟩ := (unhide H1).mem (by intro e; subst e; simp at hd)
      subst hpe
      obtain ⟨x, cx, hv, a0, a1, a2, a3, a4⟩ := hc k d hd
      have cc : ∀ {q : Addr} {v : Value}, w.cell? q = some v → wr.cell? q = some v := fun {q v} e => by rw [hbel.cell (World.block_lt_of_cell? w _ e)]; exact e
      have c0 := cc a0
      have c1 := cc a1
      have c2 := cc a2
      have c3 := cc a3
      have c4 := cc a4
      have HV := hide hv
      have hlt' : (k : Int) < (l.length : Int) := by omega
      clear a0 a1 a2 a3 a4 cc hc hd hbel hv
      go_wp2_with fail
      refine (does_round (unhide HN) (unhide HOK).1 (by have := (unhide HOK).2; omega) (by omega) d x cx (unhide HV) hbl _).mono ?_
      rintro e w5 ⟨rfl, HN5, HZ5⟩
      have HN6 : Hid (NQ w w5 N bm X (stM Mk d) (stM Mk d) ((0 + (k + 1)) * 262144) (fun _ => False)) := unhide HN5
      have HOK6 : Hid (Mok (stM Mk d) ∧ (stM Mk d).last ≤ 0 + (k + 1)) := by
        have hk3 := unhide HOK
        have hk4 := stM_last Mk d
        exact ⟨stM_ok hk3.1 (by omega) d, by omega⟩
      clear c0 c1 c2 c3 c4 HN HN5 HOK
      go_wp2_with fail
      refine (alike_any (unhide HN6) (unhide HOK6).1 (by omega)).mono ?_
      rintro e w6 ⟨rfl, HB6⟩
      have HN7 := hide ((unhide HN6).below (unhide HB6))
      go_wp2
      go_roundw
      case rel => exact ⟨k + 1, stM Mk d, by omega, by go_num, HN7, HOK6⟩
      case measure => simp [intOf]; omega
    · obtain rfl : k = l.length := by omega
      clear hlt hk
      have HBF := hide (unhide HN).bel
      go_wp2_with (go_at_call 7; refine (awake_true _).mono ?_; rintro e wz ⟨rfl, hbz⟩)
      go_ret
      exact ⟨rfl, (unhide HBF).trans (hbz.mono (unhide HBF).size)⟩
#print axioms linkLives_walk
end Go.Proofs.Ytohlmfiicfoimaa
