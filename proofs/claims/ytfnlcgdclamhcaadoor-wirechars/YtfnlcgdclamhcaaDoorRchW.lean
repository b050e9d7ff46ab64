/-
  THE WALK of the reference's Chars, over what its first gives.
-/
import Derived.Test.YtfnlcgdclamhcaaDoorFstM
import Derived.Test.YtfnlcgdclamhcaaDoorSlc
import Derived.Test.YtfnlcgdclamhcaaDoorByt
set_option linter.unusedVariables false
namespace Go.Proofs.YtfnlcgdclamhcaaDoor
open Go.RowKit

/-- What the reference's first gives, at every row that holds something. -/
def FirstSays : Prop := ∀ (b off cap : Nat) (l : List UInt8) (w : World), Row w (some ⟨b, off, none⟩) l → l ≠ [] → l.length ≤ cap → l.length ≤ 50000000 → cap ≤ maxLen →
    Calls Tryd.prog 11 #[.slice (some ⟨b, off, none⟩) l.length cap] w fun e w' => e = .returned (.int .i64 ((fst l : Nat) : Int)) ∧ Below w.heap.size w w'

set_option maxHeartbeats 1000000 in
theorem rchars_some (H : FirstSays) (b off cap : Nat) (l : List UInt8) (w : World) (hr : Row w (some ⟨b, off, none⟩) l) (hle : l.length ≤ cap) (hl : l.length ≤ 50000000) (hcm : cap ≤ maxLen) :
    Calls Tryd.prog 7 #[.slice (some ⟨b, off, none⟩) l.length cap] w fun e w' => e = .returned (.int .i64 (chI l)) ∧ Below w.heap.size w w' := by
  have HH := hide H
  have HCM := hide hcm
  clear H hcm
  go_enter Tryd.func7, Tryd.ntmps7
  go_wp2
  go_loopw [3] (fun i wr => ∃ n : Nat, n ≤ l.length ∧ i = .int .i64 (n : Int) ∧ Hid (chr l = (chr (l.drop n)).map (· + n)) ∧ Below w.heap.size w wr) (fun i _ => l.length - (intOf i).toNat)
  case atStart => exact ⟨0, Nat.zero_le _, rfl, (by show _ = _; simp), Below.refl _ _⟩
  case round =>
    obtain ⟨n, hn, rfl, HC, hb⟩ := hrel
    by_cases hlt : n < l.length
    · have hsl := slice_from b off l.length cap n n wr rfl hn (by omega)
      have hne : l.drop n ≠ [] := by intro e; have := congrArg List.length e; simp at this; omega
      have hrow : Row w (some ⟨b, off + n, none⟩) (l.drop n) := hr.drop n
      have hdl : (l.drop n).length = l.length - n := by simp
      have HD := hide (unhide HH b (off + n) (cap - n) (l.drop n) wr (hrow.below hb (Nat.le_refl _)) hne (by omega) (by omega) (by have := unhide HCM; omega))
      have hsz := d4_size (l.drop n) hne
      rw [hdl] at hsz HD
      have Hgo := hide (chr_go (l.drop n) hne)
      have Hbad := hide (chr_bad (l.drop n) hne)
      clear hrow hr hdl hne
      obtain ⟨F, hF⟩ : ∃ F, fst (l.drop n) = F := ⟨_, rfl⟩
      rw [hF] at HD
      have HFs : Hid ((F = 0 ∧ d4 (l.drop n) = (65533, 1)) ∨ (F = (d4 (l.drop n)).2 ∧ d4 (l.drop n) ≠ (65533, 1))) := by
        show _ ∨ _
        rw [← hF]
        unfold fst
        by_cases h : d4 (l.drop n) = (65533, 1)
        · left; rw [if_pos h]; exact ⟨rfl, h⟩
        · right; rw [if_neg h]; exact ⟨rfl, h⟩
      clear hF
      go_wp2_with fail
      refine (unhide HD).mono ?_
      rintro e w2 ⟨rfl, hb2⟩
      have hW2 := hb.trans (hb2.mono hb.size)
      clear HD hb2 hb
      rcases unhide HFs with ⟨rfl, hbd⟩ | ⟨hF, hnb⟩
      · have HF : Hid (chI l = (n : Int)) := by
          show _ = _
          unfold chI
          rw [unhide HC, (unhide Hbad) hbd]
          simp
        clear HC Hbad Hgo HFs hbd hsz
        go_wp2
        go_ret
        exact ⟨ret_int (unhide HF).symm, hW2⟩
      · rw [← hF] at hsz
        have HF : Hid (chr l = (chr (l.drop (n + F))).map (· + (n + F))) := by
          show _ = _
          rw [unhide HC, (unhide Hgo) hnb, ← hF, List.drop_drop]
          cases chr (l.drop (n + F)) with
          | none => rfl
          | some y => simp; omega
        have hF0 : ((F : Int) == 0) = false := by simp; omega
        clear HC Hbad Hgo HFs hnb hF
        go_wp2
        go_roundw
        case rel => exact ⟨n + F, by omega, by go_num, HF, hW2⟩
        case measure => simp [intOf]; omega
    · have HF : Hid (chI l = -1) := by
        show _ = _
        unfold chI
        rw [unhide HC, List.drop_of_length_le (by omega), chr_nil]
        rfl
      clear HC
      go_wp2
      go_ret
      exact ⟨ret_int (unhide HF).symm, hb⟩

set_option maxHeartbeats 400000 in
theorem rchars_none (a : Option Addr) (cap : Nat) (w : World) :
    Calls Tryd.prog 7 #[.slice a 0 cap] w fun e w' => e = .returned (.int .i64 (-1)) ∧ w' = w := by
  go_enter Tryd.func7, Tryd.ntmps7
  go_wp2
  refine wp_loop_rounds 1 ?_
  rw [rounds_succ]
  go_wp2
  go_ret
  exact ⟨rfl, rfl⟩

theorem rchars_any (H : FirstSays) (a : Option Addr) (n cap : Nat) (l : List UInt8) (w : World) (hB : Bs w a cap l) (hn : n = l.length) (hl : l.length ≤ 50000000) :
    Calls Tryd.prog 7 #[.slice a n cap] w fun e w' => e = .returned (.int .i64 (chI l)) ∧ Below w.heap.size w w' := by
  subst hn
  by_cases h : l = []
  · subst h
    refine (rchars_none a cap w).mono ?_
    rintro e w' ⟨rfl, rfl⟩
    exact ⟨ret_int (by unfold chI; rw [chr_nil]), Below.refl _ _⟩
  · obtain ⟨b, off, rfl, _⟩ := hB.row h
    exact rchars_some H b off cap l w hB.row hB.le hl hB.most
#print axioms rchars_any
end Go.Proofs.YtfnlcgdclamhcaaDoor
