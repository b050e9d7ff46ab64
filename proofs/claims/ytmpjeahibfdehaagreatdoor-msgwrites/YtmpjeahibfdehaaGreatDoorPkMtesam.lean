/-
  THE WALK of wire.Chars.
-/
import Derived.Test.YtmpjeahibfdehaaGreatDoorPkMtesae
import Derived.Test.YtmpjeahibfdehaaGreatDoorPkMtesac
import Derived.Test.YtmpjeahibfdehaaGreatDoorPkMtesal
import Derived.Test.YtmpjeahibfdehaaGreatDoorPkMtesaa
import Derived.Lib.LaidU8
section
set_option linter.unusedVariables false
set_option maxRecDepth 1000000
namespace Go.Proofs.YtmpjeahibfdehaaGreatDoor
open Go.RowKit

theorem str_get (l : List UInt8) (j : Nat) : (str l).get! j = l.getD j 0 := by
 unfold str ByteArray.get!
 by_cases h : j < l.length
 ·simp [h]
 ·simp [h]
  rfl
theorem dec_d4 (l : List UInt8) (h : l ≠ []) : Lib.decodeGo (str l) = d4 l := by
 have h0 : ¬ (str l).size = 0 := by rw [str_size]; intro e; exact h (List.eq_nil_of_length_eq_zero e)
 unfold Lib.decodeGo
 rw [if_neg h0, Lib.decode_at, str_size, str_get, str_get, str_get, str_get]
 rfl

abbrev Tabs (w : World) : Prop := Lib.Utf8Tabs 2 3 w

theorem dec_any (b off cap : Nat) (l : List UInt8) (w : World) (hT : Tabs w) (hne : l ≠ []) (hr : Row w (some ⟨b, off, none⟩) l) :
  Calls Tryz.prog 181 #[.slice (some ⟨b, off, none⟩) l.length cap] w fun e w' => e = .returned (.tuple #[.int .i32 ((d4 l).1 : Nat), .int .i64 ((d4 l).2 : Nat)]) ∧ Below w.heap.size w w' := by
 obtain ⟨b', off', hh, hc⟩ := hr hne
 obtain ⟨rfl, rfl⟩ : b = b' ∧ off = off' := by simpa using Option.some.inj hh
 have := Any7.utf8_DecodeRune Tryz.lays32 (str l) b off cap w hT (fun j hj => by rw [str_size] at hj; rw [hc j hj, str_get])
 rw [str_size, dec_d4 l hne] at this
 exact this

set_option maxHeartbeats 1000000 in
theorem chars_some (b off cap : Nat) (l : List UInt8) (w : World) (hT : Tabs w) (hr : Row w (some ⟨b, off, none⟩) l) (hle : l.length ≤ cap) (hl : l.length ≤ 50000000) :
  Calls Tryz.prog 163 #[.slice (some ⟨b, off, none⟩) l.length cap] w fun e w' => e = .returned (.int .i64 (chI l)) ∧ Below w.heap.size w w' := by
 go_enter Tryz.func163, Tryz.ntmps163
 go_wp2
 go_loopw [3] (fun i wr => ∃ n : Nat, n ≤ l.length ∧ i = .int .i64 (n : Int) ∧ Hid (chr l = (chr (l.drop n)).map (· + n)) ∧ Below w.heap.size w wr) (fun i _ => l.length - (intOf i).toNat)
 case atStart => exact ⟨0, Nat.zero_le _, rfl, (by show _ = _; simp), Below.refl _ _⟩
 case round =>
  obtain ⟨n, hn, rfl, HC, hb⟩ := hrel
  by_cases hlt : n < l.length
  ·have hsl := slice_from b off l.length cap n n wr rfl hn (by omega)
   have HT := hide (Utf8Tabs_below hT hb)
   have hne : l.drop n ≠ [] := by intro e; have := congrArg List.length e; simp at this; omega
   have hrow : Row w (some ⟨b, off + n, none⟩) (l.drop n) := hr.drop n
   have HR := hide (hrow.below hb (Nat.le_refl _))
   have HD := hide (dec_any b (off + n) (cap - n) (l.drop n) wr (uh HT) hne (uh HR))
   have hsz := d4_size (l.drop n) hne
   have hdl : (l.drop n).length = l.length - n := by simp
   rw [hdl] at hsz
   have Hgo := hide (chr_go (l.drop n) hne)
   have Hbad := hide (chr_bad (l.drop n) hne)
   rw [hdl] at HD
   clear HR HT hrow hT hr hdl
   obtain ⟨R, hR⟩ : ∃ R, (d4 (l.drop n)).1 = R := ⟨_, rfl⟩
   obtain ⟨K, hK⟩ : ∃ K, (d4 (l.drop n)).2 = K := ⟨_, rfl⟩
   have hRK : Hid (d4 (l.drop n) = (R, K)) := by show _ = _; rw [← hR, ← hK]
   rw [hR, hK] at HD
   rw [hK] at hsz
   clear hR hK
   go_wp2_with fail
   refine (uh HD).mono ?_
   rintro e w2 ⟨rfl, hb2⟩
   have hW2 := hb.trans (hb2.mono hb.size)
   clear HD hb2 hb
   by_cases hb1 : R = 65533 ∧ K = 1
   ·obtain ⟨rfl, rfl⟩ := hb1
    have HF : Hid (chI l = (n : Int)) := by
     show _ = _
     unfold chI
     rw [uh HC, (uh Hbad) (uh hRK)]
     simp
    clear HC Hbad Hgo hRK
    go_wp2
    go_ret
    exact ⟨ret_int (uh HF).symm, hW2⟩
   ·have hnb : ¬ d4 (l.drop n) = (65533, 1) := by
     rw [uh hRK]; intro e; exact hb1 (by simpa using e)
    have HF : Hid (chr l = (chr (l.drop (n + K))).map (· + (n + K))) := by
     show _ = _
     rw [uh HC, (uh Hgo) hnb, uh hRK, List.drop_drop]
     cases chr (l.drop (n + K)) with
     | none => rfl
     | some y => simp; omega
    have hgo : (decide (R = 65533) && decide (K = 1)) = false := by
     simp; intro h1 h2; exact hb1 ⟨h1, h2⟩
    clear HC Hbad Hgo hRK hnb
    by_cases hR1 : (R : Int) = 65533
    ·have hK1 : ¬ (K : Int) = 1 := by intro e; exact hb1 ⟨by omega, by omega⟩
     go_wp2
     go_roundw
     case rel => exact ⟨n + K, by omega, by go_num, HF, hW2⟩
     case measure => simp [intOf]; omega
    ·go_wp2
     go_roundw
     case rel => exact ⟨n + K, by omega, by go_num, HF, hW2⟩
     case measure => simp [intOf]; omega
  ·have HF : Hid (chI l = -1) := by
    show _ = _
    unfold chI
    rw [uh HC, List.drop_of_length_le (by omega), chr_nil]
    rfl
   clear HC
   go_wp2
   go_ret
   exact ⟨ret_int (uh HF).symm, hb⟩

set_option maxHeartbeats 400000 in
theorem chars_none (a : Option Addr) (cap : Nat) (w : World) :
  Calls Tryz.prog 163 #[.slice a 0 cap] w fun e w' => e = .returned (.int .i64 (-1)) ∧ w' = w := by
 go_enter Tryz.func163, Tryz.ntmps163
 go_wp2
 refine wp_loop_rounds 1 ?_
 rw [rounds_succ]
 go_wp2
 go_ret
 exact ⟨rfl, rfl⟩

theorem chars_any (a : Option Addr) (n cap : Nat) (l : List UInt8) (w : World) (hT : Tabs w) (hB : Bs w a cap l) (hn : n = l.length) (hl : l.length ≤ 50000000) :
  Calls Tryz.prog 163 #[.slice a n cap] w fun e w' => e = .returned (.int .i64 (chI l)) ∧ Below w.heap.size w w' := by
 subst hn
 by_cases h : l = []
 ·subst h
  refine (chars_none a cap w).mono ?_
  rintro e w' ⟨rfl, rfl⟩
  exact ⟨ret_int (by unfold chI; rw [chr_nil]), Below.refl _ _⟩
 ·obtain ⟨b, off, rfl, _⟩ := hB.row h
  exact chars_some b off cap l w hT hB.row hB.le hl
end Go.Proofs.YtmpjeahibfdehaaGreatDoor
end
