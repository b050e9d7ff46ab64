/-
  THE WALK of wire's fromHighest.
-/
import Derived.Test.YtoapkajlgnlecaaDoorFrm
import Derived.Test.YtoapkajlgnlecaaDoorByt
set_option linter.unusedVariables false
namespace Go.Proofs.YtoapkajlgnlecaaDoor
open Go.RowKit

theorem shl_or (N : Nat) (c : UInt8) (h : N < 72057594037927936) : bits .or .u64 ((N : Int) * 256) (c.toNat : Int) = ((N * 256 + c.toNat : Nat) : Int) := by
  have hc : c.toNat < 256 := c.toNat_lt
  have e := u64_or_nat (N * 256) c.toNat (by omega) (by omega)
  have e2 : N * 256 ||| c.toNat = N * 256 + c.toNat := nat_join 8 _ _ (by omega) (by omega)
  rw [e2] at e
  rw [← e]
  congr 1

set_option maxHeartbeats 1000000 in
theorem fromHighest_any (a : Option Addr) (n cap : Nat) (l : List UInt8) (w : World) (hr : Row w a l) (hn : n = l.length) (hl : l.length ≤ 8) :
    Calls Tryd.prog 68 #[.slice a n cap] w fun e w' => e = .returned (.int .u64 (ofBe l : Nat)) ∧ w' = w := by
  subst hn
  by_cases hne : l = []
  · subst hne
    go_enter Tryd.func68, Tryd.ntmps68
    go_wp2
    refine wp_loop_rounds 1 ?_
    rw [rounds_succ]
    go_wp2
    go_ret
    exact ⟨rfl, rfl⟩
  · obtain ⟨b, off, rfl, hc⟩ := hr hne
    go_enter Tryd.func68, Tryd.ntmps68
    go_wp2
    go_loop [3, 8] (fun c i => ∃ k : Nat, k ≤ l.length ∧ i = .int .i64 k ∧ c = .int .u64 (ofBe (l.take k) : Nat)) (fun _ i => l.length - (intOf i).toNat)
    case atStart => exact ⟨0, Nat.zero_le _, rfl, rfl⟩
    case round =>
      obtain ⟨k, hk, rfl, rfl⟩ := hrel
      by_cases hlt : k < l.length
      · have hcell := hc k hlt
        have hN : ofBe (l.take k) < 72057594037927936 := by
          have h1 := ofBe_lt (l.take k)
          have h2 : (l.take k).length ≤ 7 := by simp; omega
          have h3 := Nat.pow_le_pow_right (show 0 < 256 by decide) h2
          have h4 : (256 : Nat) ^ 7 = 72057594037927936 := by decide
          omega
        have HS : Hid (ofBe (l.take (k + 1)) = ofBe (l.take k) * 256 + l[k].toNat) := by
          show _ = _
          rw [ofBe_take l k hlt]
          simp [hlt]
        have hbk : l[k].toNat < 256 := l[k].toNat_lt
        have hor := shl_or (ofBe (l.take k)) l[k] hN
        generalize hNN : ofBe (l.take k) = N at *
        clear hNN
        go_wp2
        go_round
        case rel => exact ⟨k + 1, by omega, by go_num, int_eq (by rw [HS.out]; omega)⟩
        case measure => simp [intOf]; omega
      · have e : l.take k = l := List.take_of_length_le (by omega)
        rw [e]
        go_wp2
        go_ret
        exact ⟨rfl, rfl⟩

end Go.Proofs.YtoapkajlgnlecaaDoor
