/-
  THE WALKS of the reference's letter, Spell and Unspell.
-/
import Derived.Test.YthliodpihbbjfaaDoorSplX
import Derived.Test.YthliodpihbbjfaaDoorSplG
import Derived.Test.YthliodpihbbjfaaDoorOwnI
set_option linter.unusedVariables false
namespace Go.Proofs.YthliodpihbbjfaaDoor
open Go.RowKit

theorem run_letsi (w : World) (X : Nat) (h : X < 64) : (Instr.index 9 (.string { data := #[65, 66, 67, 68, 69, 70, 71, 72, 73, 74, 75, 76, 77, 78, 79, 80, 81, 82, 83, 84, 85, 86, 87, 88, 89, 90, 97, 98, 99, 100, 101, 102, 103, 104, 105, 106, 107, 108, 109, 110, 111, 112, 113, 114, 115, 116, 117, 118, 119, 120, 121, 122, 48, 49, 50, 51, 52, 53, 54, 55, 56, 57, 45, 95] }) (.int .i64 (X : Int))).run Tryd.prog w = .ok (.int .u8 ((lt X).toNat : Int)) w := by
  have e0 : (ByteArray.mk #[65, 66, 67, 68, 69, 70, 71, 72, 73, 74, 75, 76, 77, 78, 79, 80, 81, 82, 83, 84, 85, 86, 87, 88, 89, 90, 97, 98, 99, 100, 101, 102, 103, 104, 105, 106, 107, 108, 109, 110, 111, 112, 113, 114, 115, 116, 117, 118, 119, 120, 121, 122, 48, 49, 50, 51, 52, 53, 54, 55, 56, 57, 45, 95]) = str lets := rfl
  rw [e0, run_index_string w 9 (str lets) .i64 (X : Int) Tryd.underlying9]
  have hs : (str lets).size = 64 := rfl
  rw [dif_pos (by rw [hs]; omega)]
  have e := lets_at ⟨X, h⟩
  have e2 : ((str lets)[(X : Int).toNat]'(by rw [hs]; omega)) = lt X := by
    have : (lets.toArray[X]'(by show X < 64; exact h)) = lt X := by
      have e3 := Array.getElem?_eq_getElem (xs := lets.toArray) (i := X) (by show X < 64; exact h)
      rw [e3] at e
      exact Option.some.inj e
    exact this
  rw [e2]

theorem letter_any (X : Nat) (w : World) (h : X < 64) :
    Calls Tryd.prog 64 #[.int .i64 (X : Int)] w fun e w' => e = .returned (.int .u8 ((lt X).toNat : Int)) ∧ w' = w := by
  have hidx := run_letsi w X h
  go_enter Tryd.func64, Tryd.ntmps64
  go_wp2
  go_ret
  exact ⟨rfl, rfl⟩

theorem tmodn (m n : Nat) : (m : Int).tmod (n : Int) = ((m % n : Nat) : Int) := rfl
def slnS : Value → Nat
  | .slice _ n _ => n
  | _ => 0

set_option maxHeartbeats 4000000 in
theorem rspell_any (a : Option Addr) (cap : Nat) (l : List UInt8) (w : World) (hB : Bs w a cap l) (hl : l.length ≤ 100000) :
    Calls Tryd.prog 54 #[.slice a l.length cap] w fun e w' => e = .returned (.string (str (spR l 0 0))) ∧ Below w.heap.size w w' := by
  have hbl := bits8_length l
  go_enter Tryd.func54, Tryd.ntmps54
  go_wp2
  go_loopw [3, 13] (fun v i wr => ∃ (k : Nat) (a' : Option Addr) (cap' : Nat) (B : List Nat), k ≤ l.length ∧ i = .int .i64 (k : Int) ∧ v = .slice a' B.length cap' ∧ Hid (B ++ bits8 (l.drop k) = bits8 l) ∧ OwnI wr w.heap.size a' cap' B ∧ Below w.heap.size w wr) (fun _ i _ => l.length - (intOf i).toNat)
  case atStart => exact ⟨0, none, 0, [], Nat.zero_le _, rfl, rfl, rfl, OwnI.nil _ _, Below.refl _ _⟩
  case round =>
    obtain ⟨k, a', cap', B, hk, rfl, rfl, HR, ho, hb⟩ := hrel
    have hBl : B.length ≤ 8 * l.length := by
      have := congrArg List.length (unhide HR)
      simp only [List.length_append] at this
      omega
    by_cases hlt : k < l.length
    · obtain ⟨b, off, rfl, hcell⟩ := hB.row (by intro e; subst e; simp at hlt)
      have hcellk := (hB.row.below hb (Nat.le_refl _))
      obtain ⟨b', off', hh', hcw⟩ := hcellk (by intro e; subst e; simp at hlt)
      obtain ⟨rfl, rfl⟩ : b = b' ∧ off = off' := by simpa using Option.some.inj hh'
      have hck := hcw k hlt
      clear hcw hcell hh'
      obtain ⟨X, hX⟩ : ∃ X : Nat, (l.getD k 0).toNat = X := ⟨_, rfl⟩
      have hXl : X < 256 := by rw [← hX]; exact (l.getD k 0).toNat_lt
      have HR1 : Hid (B ++ bl X 8 ++ bits8 (l.drop (k + 1)) = bits8 l) := by
        have := unhide HR
        rw [List.drop_eq_getElem_cons hlt, bits8_cons] at this
        have e : l[k].toNat = X := by rw [← hX]; simp [hlt]
        show _ = _
        rw [← this, ← e, List.append_assoc]
      rw [hX] at hck
      clear hX HR
      go_wp2
      go_loopw [3, 6] (fun v i wr => ∃ (n : Nat) (a' : Option Addr) (cap' : Nat) (B : List Nat), n ≤ 8 ∧ i = .int .i64 ((n : Int) - 1) ∧ v = .slice a' B.length cap' ∧ Hid (B ++ bl X n ++ bits8 (l.drop (k + 1)) = bits8 l) ∧ OwnI wr w.heap.size a' cap' B ∧ Below w.heap.size w wr) (fun _ i _ => (intOf i + 1).toNat)
      case atStart => exact ⟨8, a', cap', B, Nat.le_refl _, rfl, rfl, HR1, ho, hb⟩
      case round =>
        clear HR1 ho hb hck hBl
        obtain ⟨n, a', cap', B, hn, rfl, rfl, HR, ho, hb⟩ := hrel
        have hBl : B.length ≤ 8 * l.length := by
          have := congrArg List.length (unhide HR)
          simp only [List.length_append] at this
          omega
        rcases n with _ | n
        · have HR2 : Hid (B ++ bits8 (l.drop (k + 1)) = bits8 l) := by
            show _ = _
            have := unhide HR
            simpa [bl] using this
          clear HR
          have h0 : ((0 : Nat) : Int) - 1 = -1 := by omega
          rw [h0]
          go_wp2
          go_roundw
          case rel => exact ⟨k + 1, a', cap', B, by omega, by go_num, rfl, HR2, ho, hb⟩
          case measure => simp [intOf]; omega
        · have hn1 : ((n + 1 : Nat) : Int) - 1 = (n : Int) := by omega
          rw [hn1]
          have hbs := hb.size
          obtain ⟨Y, hY⟩ : ∃ Y : Nat, Y = X / 2 ^ n := ⟨_, rfl⟩
          have hYi : (X : Int) / 2 ^ n = (Y : Int) := by rw [hY]; simp
          obtain ⟨M, hM⟩ : ∃ M : Nat, M = Y % 2 := ⟨_, rfl⟩
          have hM1 : (Y : Int).tmod 2 = (M : Int) := by rw [hM]; exact tmodn Y 2
          have hM2 : (Y : Int) % 2 = (M : Int) := by rw [hM]; simp
          have HR2 : Hid (B ++ [M] ++ bl X n ++ bits8 (l.drop (k + 1)) = bits8 l) := by
            show _ = _
            rw [← unhide HR, hM, hY]
            simp [bl]
          clear HR hY hM
          go_wp2_with (at_builtin; refine wp_appi _ rfl _ _ rfl w.heap.size a' cap' B rfl (ho.alloc _) wr.heap.size 1 M rfl (cell_liti _ _ _ ?c1) ?c5 ?c6 ?_)
          case c1 => first | rfl | assumption | omega
          case c5 => omega
          case c6 => simp; omega
          intro a2 cap2 B2 w5 hr2 ho5 hg5
          have hb5 : Below w.heap.size w w5 := below_grown (hb.alloc hb.size _) hg5 (Nat.le_refl _) (fun k hk => (ho.lt k hk).1)
          have HR5 : Hid (B2 ++ bl X n ++ bits8 (l.drop (k + 1)) = bits8 l) := by
            show _ = _
            rw [unhide hr2, ← unhide HR2]
          clear hr2 hg5 ho hb HR2
          go_wp2
          go_roundw
          case rel => exact ⟨n, a2, cap2, B2, by omega, by go_num, rfl, HR5, ho5, hb5⟩
          case measure => simp [intOf]
    · obtain rfl : k = l.length := by omega
      have HE : Hid (B = bits8 l) := by
        show _ = _
        have := unhide HR
        rw [List.drop_length] at this
        simpa [bits8] using this
      have HG : Hid (gr B = spR l 0 0) := by show _ = _; rw [unhide HE]; exact gr_bits l
      have HO : Hid (∀ y ∈ B, y ≤ 1) := by show ∀ y ∈ B, y ≤ 1; rw [unhide HE]; exact bits8_le l
      obtain ⟨G, hG⟩ : ∃ G : Nat, G = (B.length + 5) / 6 := ⟨_, rfl⟩
      have hGl : G ≤ 200000 := by omega
      clear HR HE
      go_wp2
      go_loopw [3] (fun v wr => ∃ (a' : Option Addr) (cap' : Nat) (B : List Nat), v = .slice a' B.length cap' ∧ Hid (gr B = spR l 0 0) ∧ Hid (∀ y ∈ B, y ≤ 1) ∧ G = (B.length + 5) / 6 ∧ OwnI wr w.heap.size a' cap' B ∧ Below w.heap.size w wr) (fun v _ => (6 - slnS v % 6) % 6)
      case atStart => exact ⟨a', cap', B, rfl, HG, HO, hG, ho, hb⟩
      case round =>
        clear HG HO hG ho hb hBl
        obtain ⟨a', cap', B, rfl, HG, HO, hG, ho, hb⟩ := hrel
        obtain ⟨M, hM⟩ : ∃ M : Nat, M = B.length % 6 := ⟨_, rfl⟩
        have hM1 : (B.length : Int).tmod 6 = (M : Int) := by rw [hM]; exact tmodn _ 6
        have hM2 : (B.length : Int) % 6 = (M : Int) := by rw [hM]; simp
        have hBl : B.length ≤ 1200000 := by omega
        have hbs := hb.size
        by_cases hM0 : M = 0
        · subst hM0
          have HM := hide hM
          clear hM
          go_wp2
          go_loopw [7, 8] (fun v i wr => ∃ (j : Nat) (a7 : Option Addr) (cap7 : Nat) (r : List UInt8), j ≤ B.length ∧ Hid (j % 6 = 0) ∧ i = .int .i64 (j : Int) ∧ v = .slice a7 r.length cap7 ∧ r.length ≤ j ∧ Hid (r ++ gr (B.drop j) = spR l 0 0) ∧ OwnB wr w.heap.size a7 cap7 r ∧ OwnI wr w.heap.size a' cap' B ∧ Below w.heap.size w wr) (fun _ i _ => B.length - (intOf i).toNat)
          case atStart => exact ⟨0, none, 0, [], Nat.zero_le _, rfl, rfl, rfl, Nat.le_refl _, HG, OwnB.nil _ _, ho, hb⟩
          case round =>
            clear ho hb HG hbs
            obtain ⟨j, a7, cap7, r, hj, Hj, rfl, rfl, hrj, HR, ho7, ho, hb⟩ := hrel
            by_cases hjl : j < B.length
            · have hj6 : j + 6 ≤ B.length := by have := unhide HM; have := unhide Hj; omega
              obtain ⟨g, rfl, hg0, hg1, hgc⟩ := ho.some (by omega)
              have HO' : ∀ y ∈ B.drop j, y ≤ 1 := fun y hy => unhide HO y (List.mem_of_mem_drop hy)
              have HV := hide (vk_lt (B.drop j) HO')
              clear HO'
              have Hgc := hide hgc
              clear hgc
              go_wp2
              go_loop [9, 43] (fun v i => ∃ k : Nat, k ≤ 6 ∧ i = .int .i64 (k : Int) ∧ v = .int .i64 ((vk (B.drop j) k : Nat) : Int)) (fun _ i => 6 - (intOf i).toNat)
              case atStart => exact ⟨0, Nat.zero_le _, rfl, rfl⟩
              case round =>
                obtain ⟨k, hk, rfl, rfl⟩ := hrel
                by_cases hk6 : k < 6
                · have hc := unhide Hgc (j + k) (by omega)
                  obtain ⟨J, hJ⟩ : ∃ J : Nat, J = j + k := ⟨_, rfl⟩
                  have hJi : (j : Int) + (k : Int) = (J : Int) := by omega
                  have hJl : J < B.length := by omega
                  have hJl2 : (J : Int) < (B.length : Int) := by omega
                  have HS : Hid (vk (B.drop j) (k + 1) = 2 * vk (B.drop j) k + B.getD J 0) := by
                    show _ = _
                    rw [vk, hJ]
                    simp [List.getElem?_drop]
                  rw [← hJ] at hc
                  have hv1 : vk (B.drop j) k < 64 := Nat.lt_of_lt_of_le (unhide HV k) (Nat.pow_le_pow_right (show 0 < 2 by decide) hk)
                  have hv2 : B.getD J 0 ≤ 1 := by
                    have : B.getD J 0 = B[J] := by simp [hJl]
                    rw [this]
                    exact unhide HO _ (List.getElem_mem _)
                  generalize B.getD J 0 = D at *
                  generalize vk (B.drop j) k = V at *
                  clear hJ
                  go_wp2
                  go_round
                  case rel => exact ⟨k + 1, by omega, by go_num, by rw [unhide HS]; go_num⟩
                  case measure => simp [intOf]; omega
                · obtain rfl : k = 6 := by omega
                  have HX : Hid (vk (B.drop j) 6 < 64) := unhide HV 6
                  have HR2 : Hid (r ++ [lt (vk (B.drop j) 6)] ++ gr (B.drop (j + 6)) = spR l 0 0) := by
                    show _ = _
                    rw [← unhide HR, gr_cons (B.drop j) (by simp; omega), List.drop_drop]
                    simp
                  clear HR HV Hgc
                  generalize vk (B.drop j) 6 = X at *
                  go_wp2_with fail
                  refine (letter_any X wr (unhide HX)).mono ?_
                  rintro e w4 ⟨rfl, rfl⟩
                  have hbs4 := hb.size
                  go_wp2_with (at_builtin; refine wp_app _ rfl _ _ rfl w.heap.size a7 cap7 r rfl (ho7.alloc _) (some ⟨w4.heap.size, 0, none⟩) 1 [lt X] 1 rfl rfl (row_lit _ _ _ rfl) (fun h => by cases h) ?c5 ?c6 ?_)
                  case c5 => simp; omega
                  case c6 => simp; omega
                  intro a2 cap2 r2 w5 hr2 ho5 hg5
                  have hb5 : Below w.heap.size w w5 := below_grown (hb.alloc hb.size _) hg5 (Nat.le_refl _) (fun k hk => (ho7.lt k hk).1)
                  have hoI : OwnI w5 w.heap.size (some ⟨g, 0, none⟩) cap' B := (ho.alloc _).kept hg5 (ho.ne ho7)
                  have HR5 : Hid (r2 ++ gr (B.drop (j + 6)) = spR l 0 0) := by
                    show _ = _
                    rw [unhide hr2, ← unhide HR2]
                  have hrl : r2.length ≤ j + 6 := by rw [unhide hr2]; simp; omega
                  have Hj6 : Hid ((j + 6) % 6 = 0) := by show _ = _; have := unhide Hj; omega
                  clear hr2 hg5 ho ho7 hb HR2
                  go_wp2
                  go_roundw
                  case rel => exact ⟨j + 6, a2, cap2, r2, by omega, Hj6, by go_num, rfl, hrl, HR5, ho5, hoI, hb5⟩
                  case measure => simp [intOf]; omega
            · obtain rfl : j = B.length := by omega
              have HE : Hid (r = spR l 0 0) := by
                have := unhide HR
                rw [List.drop_length, gr_nil, List.append_nil] at this
                exact this
              have hstr := run_str wr a7 r.length cap7 r ho7.toBs.row rfl
              clear HR
              go_wp2
              go_ret
              exact ⟨by have e := unhide HE; rw [← e]; rfl, hb⟩
        · have HG2 : Hid (gr (B ++ [0]) = spR l 0 0) := by show _ = _; rw [gr_snoc _ B (Nat.le_refl _) (by omega)]; exact unhide HG
          have HO2 : Hid (∀ y ∈ B ++ [0], y ≤ 1) := by
            intro y hy
            rcases List.mem_append.1 hy with h | h
            · exact unhide HO y h
            · simp at h; omega
          have HM := hide hM
          have hMne : ((M : Int) != 0) = true := by simp; omega
          clear hM HG HO
          go_wp2_with (at_builtin; refine wp_appi _ rfl _ _ rfl w.heap.size a' cap' B rfl (ho.alloc _) wr.heap.size 1 0 rfl (cell_liti _ _ _ rfl) ?c5 ?c6 ?_)
          case c5 => omega
          case c6 => simp; omega
          intro a2 cap2 B2 w5 hr2 ho5 hg5
          have hb5 : Below w.heap.size w w5 := below_grown (hb.alloc hb.size _) hg5 (Nat.le_refl _) (fun k hk => (ho.lt k hk).1)
          have hB2 := unhide hr2
          subst hB2
          clear hr2 hg5 ho hb
          go_wp2
          go_roundw
          case rel => exact ⟨a2, cap2, B ++ [0], rfl, HG2, HO2, by have := unhide HM; simp; omega, ho5, hb5⟩
          case measure => have := unhide HM; simp [slnS]; omega
#print axioms rspell_any
end Go.Proofs.YthliodpihbbjfaaDoor
