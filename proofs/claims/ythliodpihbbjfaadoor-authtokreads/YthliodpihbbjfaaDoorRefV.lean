/-
  THE WALK of the reference's Unspell.
-/
import Derived.Test.YthliodpihbbjfaaDoorRefS
import Derived.Test.YthliodpihbbjfaaDoorOwn2
set_option linter.unusedVariables false
namespace Go.Proofs.YthliodpihbbjfaaDoor
open Go.RowKit

def fnd (c : UInt8) (k : Nat) : Int := match numOf c with
  | none => -1
  | some m => if m < k then (m : Int) else -1
theorem fnd_zero (c : UInt8) : fnd c 0 = -1 := by unfold fnd; cases numOf c <;> simp
theorem fnd_eq (c : UInt8) (k : Nat) (hk : k < 64) (h : lt k = c) : fnd c (k + 1) = (k : Int) := by
  unfold fnd
  rw [← h, num_let k hk]
  simp
theorem fnd_ne (c : UInt8) (k : Nat) (h : lt k ≠ c) : fnd c (k + 1) = fnd c k := by
  unfold fnd
  cases e : numOf c with
  | none => rfl
  | some m =>
    have := (let_num c m e).2
    have hm : m ≠ k := by intro h2; subst h2; exact h this
    simp only
    by_cases h3 : m < k
    · rw [if_pos h3, if_pos (by omega)]
    · rw [if_neg h3, if_neg (by omega)]
theorem fnd_none (c : UInt8) (h : numOf c = none) : fnd c 64 = -1 := by unfold fnd; rw [h]
theorem fnd_some (c : UInt8) (m : Nat) (h : numOf c = some m) : fnd c 64 = (m : Int) := by
  unfold fnd
  rw [h]
  simp [(let_num c m h).1]
theorem fnd_range (c : UInt8) (k : Nat) : -1 ≤ fnd c k ∧ fnd c k < 64 := by
  unfold fnd
  cases e : numOf c with
  | none => simp
  | some m =>
    have := (let_num c m e).1
    simp only
    split <;> omega

set_option maxHeartbeats 4000000 in
theorem runspell_any (s : ByteArray) (w : World) (hl : s.data.toList.length ≤ 100000) :
    Calls Tryd.prog 38 #[.string s] w fun e w' => Below w.heap.size w w' ∧
      ((unR s.data.toList 0 0 = none ∧ e = .returned (.tuple #[.slice none 0 0, .bool false])) ∨
       ∃ a cap r, unR s.data.toList 0 0 = some r ∧ e = .returned (.tuple #[.slice a r.length cap, .bool true]) ∧ OwnB w' w.heap.size a cap r) := by
  obtain ⟨l, hls⟩ : ∃ l : List UInt8, l = s.data.toList := ⟨_, rfl⟩
  have hsz : s.size = l.length := by rw [hls, Array.length_toList]; rfl
  rw [← hls] at hl ⊢
  have hbl := bits6_length l
  have Hs := hide hls
  clear hls
  go_enter Tryd.func38, Tryd.ntmps38
  go_wp2
  go_loopw [4, 15] (fun v i wr => ∃ (k : Nat) (a' : Option Addr) (cap' : Nat) (B : List Nat), k ≤ l.length ∧ i = .int .i64 (k : Int) ∧ v = .slice a' B.length cap' ∧ Hid (B ++ bits6 (l.drop k) = bits6 l) ∧ OwnI wr w.heap.size a' cap' B ∧ Below w.heap.size w wr) (fun _ i _ => l.length - (intOf i).toNat)
  case atStart => exact ⟨0, none, 0, [], Nat.zero_le _, rfl, rfl, rfl, OwnI.nil _ _, Below.refl _ _⟩
  case round =>
    obtain ⟨k, a', cap', B, hk, rfl, rfl, HR, ho, hb⟩ := hrel
    have hBl : B.length ≤ 6 * l.length := by
      have := congrArg List.length (unhide HR)
      simp only [List.length_append] at this
      omega
    by_cases hlt : k < l.length
    · have hks : k < s.size := by omega
      have hks2 : (k : Int) < (s.size : Int) := by omega
      have hks3 : (k : Int) < (l.length : Int) := by omega
      have HD : Hid (l.drop k = s[k] :: l.drop (k + 1)) := by
        show _ = _
        rw [unhide Hs]
        exact str_drop s k hks
      have HK : Hid (l[k] = s[k]) := by
        show _ = _
        have := unhide HD
        rw [List.drop_eq_getElem_cons hlt] at this
        exact (List.cons.inj this).1
      have hxl := s[k].toNat_lt
      go_wp2
      go_loopw [6, 18] (fun v i wr => ∃ (j : Nat), j ≤ 64 ∧ i = .int .i64 (j : Int) ∧ v = .int .i64 (fnd s[k] j) ∧ OwnI wr w.heap.size a' cap' B ∧ Below w.heap.size w wr) (fun _ i _ => 64 - (intOf i).toNat)
      case atStart => exact ⟨0, Nat.zero_le _, rfl, by rw [fnd_zero], ho, hb⟩
      case round =>
        clear ho hb
        obtain ⟨j, hj, rfl, rfl, ho, hb⟩ := hrel
        by_cases hj64 : j < 64
        · have hj2 : (j : Int) < 64 := by omega
          by_cases hq : lt j = s[k]
          · have HF : Hid (fnd s[k] (j + 1) = (j : Int)) := fnd_eq _ j hj64 hq
            have hd : (((lt j).toNat : Int) == (s[k].toNat : Int)) = true := by rw [hq]; simp
            clear hq
            go_wp2_with fail
            go_quiet (first | (go_at_call 64; refine Calls.quiet_of_same (letter_any j _ hj64)))
            go_wp2
            go_roundw
            case rel => exact ⟨j + 1, by omega, by go_num, by rw [unhide HF], ho.below (below_drewN (Below.refl wr.heap.size wr) nq) (Nat.le_refl _), below_drewN hb nq⟩
            case measure => simp [intOf]; omega
          · have HF : Hid (fnd s[k] (j + 1) = fnd s[k] j) := fnd_ne _ j hq
            have hd : (((lt j).toNat : Int) == (s[k].toNat : Int)) = false := by
              simp only [beq_eq_false_iff_ne, ne_eq]
              intro h
              apply hq
              apply UInt8.toNat_inj.1
              omega
            clear hq
            go_wp2_with fail
            go_quiet (first | (go_at_call 64; refine Calls.quiet_of_same (letter_any j _ hj64)))
            go_wp2
            go_roundw
            case rel => exact ⟨j + 1, by omega, by go_num, by rw [unhide HF], ho.below (below_drewN (Below.refl wr.heap.size wr) nq) (Nat.le_refl _), below_drewN hb nq⟩
            case measure => simp [intOf]; omega
        · obtain rfl : j = 64 := by omega
          rw [show ((64 : Nat) : Int) = 64 from rfl]
          cases hnum : numOf s[k] with
          | none =>
            have HU : Hid (unR l 0 0 = none) := un_ref_bad l k hlt (by rw [unhide HK]; exact hnum)
            rw [fnd_none _ hnum]
            clear HD HR
            go_wp2
            go_ret2
            exact ⟨hb, .inl ⟨unhide HU, rfl⟩⟩
          | some X =>
            have hXl := (let_num _ X hnum).1
            have HR1 : Hid (B ++ bl X 6 ++ bits6 (l.drop (k + 1)) = bits6 l) := by
              have := unhide HR
              rw [unhide HD, bits6_cons] at this
              have e : nm s[k] = X := by rw [nm, hnum]; rfl
              show _ = _
              rw [← this, e, List.append_assoc]
            rw [fnd_some _ X hnum]
            have hXd : decide ((X : Int) < 0) = false := by simp
            clear HR HD HK hnum
            go_wp2
            go_loopw [4, 8] (fun v i wr => ∃ (n : Nat) (a' : Option Addr) (cap' : Nat) (B : List Nat), n ≤ 6 ∧ i = .int .i64 ((n : Int) - 1) ∧ v = .slice a' B.length cap' ∧ Hid (B ++ bl X n ++ bits6 (l.drop (k + 1)) = bits6 l) ∧ OwnI wr w.heap.size a' cap' B ∧ Below w.heap.size w wr) (fun _ i _ => (intOf i + 1).toNat)
            case atStart => exact ⟨6, a', cap', B, Nat.le_refl _, rfl, rfl, HR1, ho, hb⟩
            case round =>
              clear HR1 ho hb hBl
              obtain ⟨n, a', cap', B, hn, rfl, rfl, HR, ho, hb⟩ := hrel
              have hBl : B.length ≤ 6 * l.length := by
                have := congrArg List.length (unhide HR)
                simp only [List.length_append] at this
                omega
              rcases n with _ | n
              · have HR2 : Hid (B ++ bits6 (l.drop (k + 1)) = bits6 l) := by
                  show _ = _
                  have := unhide HR
                  simpa [bl] using this
                clear HR
                have h0 : ((0 : Nat) : Int) - 1 = -1 := by omega
                rw [h0]
                go_wp2
                go_roundw
                case rel => exact ⟨k + 1, a', cap', B, by omega, by go_num, rfl, HR2, ho, hb⟩
                case measure => simp [intOf]; omega
              · have hn1 : ((n + 1 : Nat) : Int) - 1 = (n : Int) := by omega
                rw [hn1]
                have hbs := hb.size
                obtain ⟨Y, hY⟩ : ∃ Y : Nat, Y = X / 2 ^ n := ⟨_, rfl⟩
                have hYi : (X : Int) / 2 ^ n = (Y : Int) := by rw [hY]; simp
                obtain ⟨M, hM⟩ : ∃ M : Nat, M = Y % 2 := ⟨_, rfl⟩
                have hM1 : (Y : Int).tmod 2 = (M : Int) := by rw [hM]; exact tmodn Y 2
                have hM2 : (Y : Int) % 2 = (M : Int) := by rw [hM]; simp
                have HR2 : Hid (B ++ [M] ++ bl X n ++ bits6 (l.drop (k + 1)) = bits6 l) := by
                  show _ = _
                  rw [← unhide HR, hM, hY]
                  simp [bl]
                clear HR hY hM
                go_wp2_with (at_builtin; refine wp_appi _ rfl _ _ rfl w.heap.size a' cap' B rfl (ho.alloc _) wr.heap.size 1 M rfl (cell_liti _ _ _ ?c1) ?c5 ?c6 ?_)
                case c1 => first | rfl | assumption | omega
                case c5 => omega
                case c6 => first | omega | (simp; omega)
                intro a2 cap2 B2 w5 hr2 ho5 hg5
                have hb5 : Below w.heap.size w w5 := below_grown (hb.alloc hb.size _) hg5 (Nat.le_refl _) (fun k hk => (ho.lt k hk).1)
                have HR5 : Hid (B2 ++ bl X n ++ bits6 (l.drop (k + 1)) = bits6 l) := by
                  show _ = _
                  rw [unhide hr2, ← unhide HR2]
                clear hr2 hg5 ho hb HR2
                go_wp2
                go_roundw
                case rel => exact ⟨n, a2, cap2, B2, by omega, by go_num, rfl, HR5, ho5, hb5⟩
                case measure => simp [intOf]
    · obtain rfl : k = l.length := by omega
      have HE : Hid (B = bits6 l) := by
        show _ = _
        have := unhide HR
        rw [List.drop_length] at this
        simpa [bits6] using this
      have HO : Hid (∀ y ∈ B, y ≤ 1) := by show ∀ y ∈ B, y ≤ 1; rw [unhide HE]; exact bits6_le l
      clear HR
      go_wp2
      go_loopw [9, 10] (fun v i wr => ∃ (j : Nat) (a7 : Option Addr) (cap7 : Nat) (r : List UInt8), j ≤ B.length ∧ i = .int .i64 (j : Int) ∧ v = .slice a7 r.length cap7 ∧ 8 * r.length ≤ j ∧ Hid (r ++ g8 (B.drop j) = g8 B) ∧ OwnB wr w.heap.size a7 cap7 r ∧ OwnI wr w.heap.size a' cap' B ∧ Below w.heap.size w wr) (fun _ i _ => B.length - (intOf i).toNat)
      case atStart => exact ⟨0, none, 0, [], Nat.zero_le _, rfl, rfl, Nat.le_refl _, rfl, OwnB.nil _ _, ho, hb⟩
      case round =>
        clear ho hb
        obtain ⟨j, a7, cap7, r, hj, rfl, rfl, hrj, HR, ho7, ho, hb⟩ := hrel
        by_cases hj6 : j + 8 ≤ B.length
        · obtain ⟨g, rfl, hg0, hg1, hgc⟩ := ho.some (by omega)
          have HO' : ∀ y ∈ B.drop j, y ≤ 1 := fun y hy => unhide HO y (List.mem_of_mem_drop hy)
          have HV := hide (vk_lt (B.drop j) HO')
          clear HO'
          have Hgc := hide hgc
          clear hgc
          go_wp2
          go_loop [11, 50] (fun v i => ∃ k : Nat, k ≤ 8 ∧ i = .int .i64 (k : Int) ∧ v = .int .i64 ((vk (B.drop j) k : Nat) : Int)) (fun _ i => 8 - (intOf i).toNat)
          case atStart => exact ⟨0, Nat.zero_le _, rfl, rfl⟩
          case round =>
            obtain ⟨k, hk, rfl, rfl⟩ := hrel
            by_cases hk6 : k < 8
            · have hc := unhide Hgc (j + k) (by omega)
              obtain ⟨J, hJ⟩ : ∃ J : Nat, J = j + k := ⟨_, rfl⟩
              have hJi : (j : Int) + (k : Int) = (J : Int) := by omega
              have hJl : J < B.length := by omega
              have hJl2 : (J : Int) < (B.length : Int) := by omega
              have HS : Hid (vk (B.drop j) (k + 1) = 2 * vk (B.drop j) k + B.getD J 0) := by
                show _ = _
                rw [vk, hJ]
                simp [List.getElem?_drop]
              rw [← hJ] at hc
              have hv1 : vk (B.drop j) k < 256 := Nat.lt_of_lt_of_le (unhide HV k) (Nat.pow_le_pow_right (show 0 < 2 by decide) hk)
              have hv2 : B.getD J 0 ≤ 1 := by
                have : B.getD J 0 = B[J] := by simp [hJl]
                rw [this]
                exact unhide HO _ (List.getElem_mem _)
              generalize B.getD J 0 = D at *
              generalize vk (B.drop j) k = V at *
              clear hJ
              go_wp2
              go_round
              case rel => exact ⟨k + 1, by omega, by go_num, by rw [unhide HS]; go_num⟩
              case measure => simp [intOf]; omega
            · obtain rfl : k = 8 := by omega
              have HX : Hid (vk (B.drop j) 8 < 256) := unhide HV 8
              have HR2 : Hid (r ++ [UInt8.ofNat (vk (B.drop j) 8)] ++ g8 (B.drop (j + 8)) = g8 B) := by
                show _ = _
                rw [← unhide HR, g8_go (B.drop j) (by simp; omega), List.drop_drop]
                simp
              clear HR HV Hgc
              generalize vk (B.drop j) 8 = X at *
              have hbs4 := hb.size
              have hX := unhide HX
              go_wp2_with (at_builtin; refine wp_app _ rfl _ _ rfl w.heap.size a7 cap7 r rfl (ho7.alloc _) (some ⟨wr.heap.size, 0, none⟩) 1 [UInt8.ofNat X] 1 rfl rfl (row_lit _ _ _ ?c1) (fun h => by cases h) ?c5 ?c6 ?_)
              case c1 => first | (rw [toNat_of X hX]; done) | (rw [toNat_of X hX]; omega) | (simp; omega) | omega
              case c5 => first | omega | (simp; omega)
              case c6 => first | omega | (simp; omega)
              intro a2 cap2 r2 w5 hr2 ho5 hg5
              have hb5 : Below w.heap.size w w5 := below_grown (hb.alloc hb.size _) hg5 (Nat.le_refl _) (fun k hk => (ho7.lt k hk).1)
              have hoI : OwnI w5 w.heap.size (some ⟨g, 0, none⟩) cap' B := (ho.alloc _).kept hg5 (ho.ne ho7)
              have HR5 : Hid (r2 ++ g8 (B.drop (j + 8)) = g8 B) := by
                show _ = _
                rw [unhide hr2, ← unhide HR2]
              have hrl : 8 * r2.length ≤ j + 8 := by rw [unhide hr2]; simp; omega
              clear hr2 hg5 ho ho7 hb HR2
              go_wp2
              go_roundw
              case rel => exact ⟨j + 8, a2, cap2, r2, by omega, by go_num, rfl, hrl, HR5, ho5, hoI, hb5⟩
              case measure => simp [intOf]; omega
        · have HE2 : Hid (r = g8 (bits6 l)) := by
            show _ = _
            have := unhide HR
            rw [g8_end (B.drop j) (by simp; omega), List.append_nil] at this
            rw [this, unhide HE]
          clear HR HE
          go_wp2_with fail
          refine (rspell_any a7 cap7 r wr ho7.toBs (by omega)).mono ?_
          rintro e w4 ⟨rfl, hb4⟩
          have hW4 := hb.trans (hb4.mono hb.size)
          have ho4 : OwnB w4 w.heap.size a7 cap7 r := ho7.below hb4 (Nat.le_refl _)
          clear hb hb4 ho ho7
          by_cases hq : spR r 0 0 = l
          · have hs' : str (spR r 0 0) = s := str_eq s _ (by rw [hq]; exact unhide Hs)
            have HU : Hid (unR l 0 0 = some r) := by
              show _ = _
              rw [unhide HE2] at hq ⊢
              exact un_ref_some l hq
            rw [hs']
            clear HE2 hq
            go_wp2
            go_ret2
            exact ⟨hW4, .inr ⟨a7, cap7, r, unhide HU, rfl, ho4⟩⟩
          · have hs' : str (spR r 0 0) ≠ s := by
              intro h
              apply hq
              have := congrArg (fun s : ByteArray => s.data.toList) h
              rw [unhide Hs]
              exact this
            have HU : Hid (unR l 0 0 = none) := by
              show _ = _
              rw [unhide HE2] at hq
              exact un_ref_none l hq
            have hs2 : ((str (spR r 0 0)).toList == s.toList) = false := by
              have e : s = str l := (str_eq s l (unhide Hs)).symm
              rw [e, toList_str, toList_str]
              simpa using hq
            clear HE2 hq hs'
            generalize str (spR r 0 0) = t at *
            go_wp2
            go_ret2
            exact ⟨hW4, .inl ⟨unhide HU, rfl⟩⟩
#print axioms runspell_any
end Go.Proofs.YthliodpihbbjfaaDoor
