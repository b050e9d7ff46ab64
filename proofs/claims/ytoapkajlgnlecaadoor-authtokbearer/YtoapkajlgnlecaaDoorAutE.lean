/-
  authtok: THE WALKS of strings.Cut (at a point) and said.
-/
import Derived.Test.YtoapkajlgnlecaaDoorAutD
set_option linter.unusedVariables false
set_option maxRecDepth 1000000
namespace Go.Proofs.YtoapkajlgnlecaaDoor
open Go.RowKit

theorem idx_cut : ∀ s : List UInt8, (46 ∈ s ∧ Lib.indexByte s 46 = ((cutP s).length : Int) ∧ (cutP s).length < s.length ∧ cutP s = s.take (cutP s).length) ∨ (Lib.indexByte s 46 = -1 ∧ cutP s = s ∧ 46 ∉ s)
  | [] => .inr ⟨rfl, rfl, by simp⟩
  | b :: l => by
    by_cases hb : b = 46
    · subst hb
      left
      simp [Lib.indexByte, cutP]
    · have hne : (b == 46) = false := by simp [hb]
      have hcut : cutP (b :: l) = b :: cutP l := by
        unfold cutP
        rw [List.takeWhile_cons]
        simp [hb]
      rcases idx_cut l with ⟨h0, h1, h2, h3⟩ | ⟨h1, h2, h3⟩
      · left
        refine ⟨List.mem_cons_of_mem _ h0, ?_, ?_, ?_⟩
        · rw [hcut]
          simp only [Lib.indexByte, hne, h1]
          have : (((cutP l).length : Int) == -1) = false := by simp
          simp [this]
        · rw [hcut]; simpa using h2
        · rw [hcut]
          simp only [List.length_cons, List.take_succ_cons]
          rw [← h3]
      · right
        refine ⟨?_, by rw [hcut, h2], by simp [h3, Ne.symm hb]⟩
        simp [Lib.indexByte, hne, h1]

theorem str_inj {a b : List UInt8} (h : str a = str b) : a = b := by
  have := congrArg (fun x : ByteArray => x.data.toList) h
  simpa [str] using this
theorem str_take (s : List UInt8) (k : Nat) : (str s).extract 0 k = str (s.take k) := by
  have := ByteArray.extract_mk s 0 k
  rw [Nat.sub_zero, List.drop_zero] at this
  exact this

set_option maxHeartbeats 2000000 in
theorem sindex_any (s : List UInt8) (w : World) (hs : s.length ≤ 100000) :
    Calls Tryd.prog 39 #[.string (str s), .string ⟨#[46]⟩] w fun e w' => e = .returned (.int .i64 (Lib.indexByte s 46)) ∧ w' = w := by
  have hsz : (str s).size = s.length := str_size s
  have hz1 : (⟨#[46]⟩ : ByteArray).size = 1 := rfl
  by_cases h : s = [46]
  · subst h
    have hq : ([46] == (str [46]).toList) = true := by rw [toList_str]; rfl
    go_enter Tryd.func39, Tryd.ntmps39
    go_wp2
    go_ret
    exact ⟨rfl, rfl⟩
  · have hq : ([46] == (str s).toList) = false := by
      rw [toList_str, beq_eq_false_iff_ne]
      exact fun e => h e.symm
    have HC := hide (slIdx_any (str s) 46 w)
    obtain ⟨r, hr⟩ : ∃ r, Lib.indexByte s 46 = r := ⟨_, rfl⟩
    rw [hr]
    have HR := hide hr
    clear hr h
    go_enter Tryd.func39, Tryd.ntmps39
    go_wp2_with (go_at_call 55; refine HC.out.mono ?_; rintro e w2 ⟨rfl, rfl⟩; rw [show (str s).data.toList = s from rfl, HR.out])
    go_ret
    exact ⟨rfl, rfl⟩

set_option maxHeartbeats 2000000 in
theorem scut_any (s : List UInt8) (w : World) (hs : s.length ≤ 100000) :
    Calls Tryd.prog 23 #[.string (str s), .string ⟨#[46]⟩] w fun e w' => ∃ t b, e = .returned (.tuple #[.string (str (cutP s)), .string t, .bool b]) ∧ Hid (Below w.heap.size w w') := by
  have hsz : (str s).size = s.length := str_size s
  have hz1 : (⟨#[46]⟩ : ByteArray).size = 1 := rfl
  rcases idx_cut s with ⟨_, h1, h2, h3⟩ | ⟨h1, h2, _⟩
  · obtain ⟨K, hK⟩ : ∃ K, (cutP s).length = K := ⟨_, rfl⟩
    rw [hK] at h1 h2 h3
    have HE : Hid ((str s).extract 0 K = str (cutP s)) := by show _ = _; rw [str_take, ← h3]
    have HI := hide h1
    clear h1 h3 hK
    go_enter Tryd.func23, Tryd.ntmps23
    go_wp2_with (go_at_call 39; refine (sindex_any s w hs).mono ?_; rintro e w2 ⟨rfl, rfl⟩; rw [HI.out])
    go_quiet (fail)
    go_wp2
    go_ret3
    exact ⟨_, _, by rw [← HE.out]; rfl, below_drewN (Below.refl _ _) nq⟩
  · have HI := hide h1
    have HE := hide h2
    clear h1 h2
    go_enter Tryd.func23, Tryd.ntmps23
    go_wp2_with (go_at_call 39; refine (sindex_any s w hs).mono ?_; rintro e w2 ⟨rfl, rfl⟩; rw [HI.out])
    go_ret3
    exact ⟨_, _, by rw [HE.out]; rfl, Below.refl _ _⟩
set_option maxHeartbeats 2000000 in
theorem cut_any (s : List UInt8) (w : World) (hs : s.length ≤ 100000) :
    Calls Tryd.prog 11 #[.string (str s), .string ⟨#[46]⟩] w fun e w' => ∃ t b, e = .returned (.tuple #[.string (str (cutP s)), .string t, .bool b]) ∧ Hid (Below w.heap.size w w') := by
  go_enter Tryd.func11, Tryd.ntmps11
  go_wp2_with (go_at_call 23; refine (scut_any s w hs).mono ?_; rintro e w2 ⟨t, b, rfl, hb⟩)
  go_ret3
  exact ⟨t, b, rfl, hb⟩
#print axioms cut_any
end Go.Proofs.YtoapkajlgnlecaaDoor
