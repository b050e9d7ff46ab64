/-
  THE WALKS of wire.letterNumber, wire.Spell and wire.Unspell.; THE WALKS of wire.Spell and wire.Unspell.
-/
import Derived.Test.YtegbcjfceooflaaDoorPkWptsak
import Derived.Test.YtegbcjfceooflaaDoorPkWptsal
import Derived.Test.YtegbcjfceooflaaDoorPkWptsam
section
set_option linter.unusedVariables false
namespace Go.Proofs.YtegbcjfceooflaaDoor
open Go.RowKit

set_option maxHeartbeats 1000000 in
theorem letnum_any (c : UInt8) (w : World) :
    Calls Tryd.prog 56 #[.int .u8 (c.toNat : Int)] w fun e w' => w' = w ∧ ((numOf c = none ∧ e = .returned (.tuple #[.int .u64 0, .bool false])) ∨ ∃ n : Nat, numOf c = some n ∧ e = .returned (.tuple #[.int .u64 (n : Int), .bool true])) := by
  have hc := c.toNat_lt
  generalize hX : c.toNat = X at *
  have hnum : numOf c = if 65 ≤ X ∧ X ≤ 90 then some (X - 65) else if 97 ≤ X ∧ X ≤ 122 then some (X - 97 + 26) else if 48 ≤ X ∧ X ≤ 57 then some (X - 48 + 52) else if X = 45 then some 62 else if X = 95 then some 63 else none := by
    unfold numOf
    rw [hX]
  clear hX
  have HN := hide hnum
  clear hnum
  by_cases h1 : 65 ≤ X ∧ X ≤ 90
  · obtain ⟨h1, h2⟩ := h1
    obtain ⟨n, hn⟩ : ∃ n : Nat, n = X - 65 := ⟨_, rfl⟩
    have hni : (X : Int) - 65 = (n : Int) := by omega
    have hnl : n ≤ 25 := by omega
    have HE : Hid (numOf c = some n) := by show _ = _; rw [unhide HN, if_pos ⟨h1, h2⟩, hn]
    clear hn HN
    go_enter Tryd.func56, Tryd.ntmps56
    go_wp2
    go_ret2
    exact ⟨rfl, .inr ⟨n, unhide HE, rfl⟩⟩
  by_cases h2 : 97 ≤ X ∧ X ≤ 122
  · obtain ⟨h2, h3⟩ := h2
    have h4 : ¬ X ≤ 90 := by omega
    have h5 : 65 ≤ X := by omega
    obtain ⟨n, hn⟩ : ∃ n : Nat, n = X - 97 := ⟨_, rfl⟩
    have hni : (X : Int) - 97 = (n : Int) := by omega
    have hnl : n ≤ 25 := by omega
    have HE : Hid (numOf c = some (n + 26)) := by show _ = _; rw [unhide HN, if_neg h1, if_pos ⟨h2, h3⟩, hn]
    clear hn HN h1
    go_enter Tryd.func56, Tryd.ntmps56
    go_wp2
    go_ret2
    exact ⟨rfl, .inr ⟨n + 26, unhide HE, by simp⟩⟩
  by_cases h3 : 48 ≤ X ∧ X ≤ 57
  · obtain ⟨h3, h4⟩ := h3
    have h5 : ¬ 65 ≤ X := by omega
    have h6 : ¬ 97 ≤ X := by omega
    obtain ⟨n, hn⟩ : ∃ n : Nat, n = X - 48 := ⟨_, rfl⟩
    have hni : (X : Int) - 48 = (n : Int) := by omega
    have hnl : n ≤ 9 := by omega
    have HE : Hid (numOf c = some (n + 52)) := by show _ = _; rw [unhide HN, if_neg h1, if_neg h2, if_pos ⟨h3, h4⟩, hn]
    clear hn HN h1 h2
    go_enter Tryd.func56, Tryd.ntmps56
    go_wp2
    go_ret2
    exact ⟨rfl, .inr ⟨n + 52, unhide HE, by simp⟩⟩
  by_cases h4 : X = 45
  · subst h4
    have HE : Hid (numOf c = some 62) := by show _ = _; rw [unhide HN, if_neg h1, if_neg h2, if_neg h3, if_pos rfl]
    clear HN h1 h2 h3
    go_enter Tryd.func56, Tryd.ntmps56
    go_wp2
    go_ret2
    exact ⟨rfl, .inr ⟨62, unhide HE, rfl⟩⟩
  by_cases h5 : X = 95
  · subst h5
    have HE : Hid (numOf c = some 63) := by show _ = _; rw [unhide HN, if_neg h1, if_neg h2, if_neg h3, if_neg h4, if_pos rfl]
    clear HN h1 h2 h3 h4
    go_enter Tryd.func56, Tryd.ntmps56
    go_wp2
    go_ret2
    exact ⟨rfl, .inr ⟨63, unhide HE, rfl⟩⟩
  have HE : Hid (numOf c = none) := by show _ = _; rw [unhide HN, if_neg h1, if_neg h2, if_neg h3, if_neg h4, if_neg h5]
  clear HN
  have e1 : (decide (65 ≤ X) && decide (X ≤ 90)) = false := by simp; omega
  by_cases k1 : 65 ≤ X
  · have k2 : ¬ X ≤ 90 := by omega
    have k6 : ¬ X ≤ 57 := by omega
    have k5 : 48 ≤ X := by omega
    by_cases k3 : 97 ≤ X
    · have k4 : ¬ X ≤ 122 := by omega
      clear h1 h2 h3 h4 h5 e1
      have n1 : ((X : Int) == 45) = false := by simp; omega
      have n2 : ((X : Int) == 95) = false := by simp; omega
      go_enter Tryd.func56, Tryd.ntmps56
      go_wp2
      go_ret2
      exact ⟨rfl, .inl ⟨unhide HE, rfl⟩⟩
    · clear h1 h2 h3 h4 e1
      have n1 : ((X : Int) == 45) = false := by simp; omega
      have n2 : ((X : Int) == 95) = false := by simp; omega
      clear h5
      go_enter Tryd.func56, Tryd.ntmps56
      go_wp2
      go_ret2
      exact ⟨rfl, .inl ⟨unhide HE, rfl⟩⟩
  · have k3 : ¬ 97 ≤ X := by omega
    have n2 : ((X : Int) == 95) = false := by simp; omega
    have n1 : ((X : Int) == 45) = false := by simp; omega
    by_cases k5 : 48 ≤ X
    · have k6 : ¬ X ≤ 57 := by omega
      clear h1 h2 h3 h4 h5 e1
      go_enter Tryd.func56, Tryd.ntmps56
      go_wp2
      go_ret2
      exact ⟨rfl, .inl ⟨unhide HE, rfl⟩⟩
    · clear h1 h2 h3 h4 h5 e1
      go_enter Tryd.func56, Tryd.ntmps56
      go_wp2
      go_ret2
      exact ⟨rfl, .inl ⟨unhide HE, rfl⟩⟩

#print axioms letnum_any
end Go.Proofs.YtegbcjfceooflaaDoor
end
section
set_option linter.unusedVariables false
namespace Go.Proofs.YtegbcjfceooflaaDoor
open Go.RowKit

theorem Bit.ne {w : World} {base : Nat} {a : Option Addr} {cap : Nat} {r : List UInt8} {C h c : Nat} (b : Bit w C h c) (o : OwnB w base a cap r) : blk a = none ∨ blk a ≠ some C := by
  rcases o.cases with ⟨rfl, _, _⟩ | ⟨g, cur, rfl, _, hg, _⟩
  · exact .inl rfl
  · right
    intro e
    simp [blk] at e
    subst e
    unfold Bit at b
    rw [hg] at b
    simp at b
theorem Bit.lt {w : World} {C h c : Nat} (b : Bit w C h c) : C < w.heap.size := (Array.getElem?_eq_some_iff.1 b).1
theorem Bit.kept {w w' : World} {C h c : Nat} (b : Bit w C h c) {a : Option Addr} (hg : w.grownBy w' (blk a)) (hne : blk a = none ∨ blk a ≠ some C) : Bit w' C h c := by
  unfold Bit
  rw [hg.block C b.lt (by
    rcases hne with h | h
    · rw [h]; first | exact Option.some_ne_none _ | exact (Option.some_ne_none _).symm
    · first | exact h | exact h.symm)]
  exact b
theorem Bit.alloc {w : World} {C h c : Nat} (b : Bit w C h c) (o : Obj) : Bit (w.alloc o) C h c := by
  unfold Bit
  rw [((Below.refl w.heap.size w).alloc (Nat.le_refl _) o).block C b.lt]
  exact b
def cnt (w : World) (C : Nat) : Nat := (intOf ((w.cell? ⟨C, 1, none⟩).getD undef)).toNat
theorem cnt_bit {w : World} {C h c : Nat} (b : Bit w C h c) : cnt w C = c := by
  unfold cnt
  rw [b.c1]
  simp [intOf]
theorem below_bit {B C : Nat} {w0 w w' : World} (h : Below B w0 w) (hg : w.grownBy w' (some C)) (hB : B ≤ w0.heap.size) (hC : B ≤ C) : Below B w0 w' :=
  below_grown (a := some ⟨C, 0, none⟩) h hg hB (fun k hk => by simp [blk] at hk; omega)

theorem put8 (C h c x : Nat) (w : World) (b : Bit w C h c) (hh : h < 65536) (hc : c ≤ 64) (hx : x < 256) :
    Calls Tryd.prog 57 #[.pointer (some ⟨C, 0, none⟩), .int .u64 (x : Int), .int .i64 8] w fun e w' => e = .returned (.tuple #[]) ∧ Bit w' C (h * 256 + x) (c + 8) ∧ w.grownBy w' (some C) :=
  put_any C h c x 8 w b hh hc hx (by decide)
theorem take6 (C h c : Nat) (w : World) (b : Bit w C h c) (hh : h < 16777216) (h6 : 6 ≤ c) (hk : c ≤ 16) :
    Calls Tryd.prog 58 #[.pointer (some ⟨C, 0, none⟩), .int .i64 6] w fun e w' => e = .returned (.int .u64 ((h / 2 ^ (c - 6) : Nat) : Int)) ∧ Bit w' C (h % 2 ^ (c - 6)) (c - 6) ∧ w.grownBy w' (some C) :=
  take_any C h c 6 (c - 6) w b hh (by omega) (by omega) (by decide)

theorem lets_at : ∀ n : Fin 64, (lets.toArray[n.val]?) = some (lt n.val) := by decide +kernel
theorem run_lets (w : World) (X : Nat) (h : X < 64) : (Instr.index 9 (.string (str lets)) (.int .u64 (X : Int))).run Tryd.prog w = .ok (.int .u8 ((lt X).toNat : Int)) w := by
  rw [run_index_string w 9 (str lets) .u64 (X : Int) Tryd.underlying9]
  have hs : (str lets).size = 64 := rfl
  rw [dif_pos (by rw [hs]; omega)]
  have e := lets_at ⟨X, h⟩
  have e2 : ((str lets)[(X : Int).toNat]'(by rw [hs]; omega)) = lt X := by
    have : (lets.toArray[X]'(by show X < 64; exact h)) = lt X := by
      have e3 := Array.getElem?_eq_getElem (xs := lets.toArray) (i := X) (by show X < 64; exact h)
      rw [e3] at e
      exact Option.some.inj e
    exact this
  rw [e2]

theorem pow_div (V c : Nat) (h : V < 2 ^ c) (h6 : 6 ≤ c) : V / 2 ^ (c - 6) < 64 := by
  rw [Nat.div_lt_iff_lt_mul (Nat.pow_pos (by decide))]
  have : 2 ^ c = 2 ^ (c - 6) * 64 := by rw [show (64 : Nat) = 2 ^ 6 by rfl, ← Nat.pow_add]; congr 1; omega
  omega

theorem str_eq (s : ByteArray) (l : List UInt8) (h : l = s.data.toList) : str l = s := by
  subst h
  rcases s with ⟨d⟩
  simp [str]
theorem str_drop (s : ByteArray) (k : Nat) (h : k < s.size) : s.data.toList.drop k = s[k] :: s.data.toList.drop (k + 1) := by
  have h2 : k < s.data.toList.length := by rw [Array.length_toList]; exact h
  rw [List.drop_eq_getElem_cons h2]
  congr 1
theorem put6 (C h c x : Nat) (w : World) (b : Bit w C h c) (hh : h < 65536) (hc : c ≤ 64) (hx : x < 64) :
    Calls Tryd.prog 57 #[.pointer (some ⟨C, 0, none⟩), .int .u64 (x : Int), .int .i64 6] w fun e w' => e = .returned (.tuple #[]) ∧ Bit w' C (h * 64 + x) (c + 6) ∧ w.grownBy w' (some C) :=
  put_any C h c x 6 w b hh hc hx (by decide)
theorem take8 (C h c : Nat) (w : World) (b : Bit w C h (c + 6)) (hh : h < 16777216) (h6 : 2 ≤ c) (hk : c ≤ 16) :
    Calls Tryd.prog 58 #[.pointer (some ⟨C, 0, none⟩), .int .i64 8] w fun e w' => e = .returned (.int .u64 ((h / 2 ^ (c - 2) : Nat) : Int)) ∧ Bit w' C (h % 2 ^ (c - 2)) (c - 2) ∧ w.grownBy w' (some C) :=
  take_any C h (c + 6) 8 (c - 2) w b hh (by omega) (by omega) (by decide)

set_option maxHeartbeats 2000000 in
theorem unspell_any (s : ByteArray) (w : World) (hl : s.data.toList.length ≤ 100000) :
    Calls Tryd.prog 34 #[.string s] w fun e w' => Below w.heap.size w w' ∧
      ((unR s.data.toList 0 0 = none ∧ e = .returned (.tuple #[.slice none 0 0, .bool false])) ∨
       ∃ a cap r, unR s.data.toList 0 0 = some r ∧ e = .returned (.tuple #[.slice a r.length cap, .bool true]) ∧ OwnB w' w.heap.size a cap r) := by
  obtain ⟨l, hls⟩ : ∃ l : List UInt8, l = s.data.toList := ⟨_, rfl⟩
  have hsz : s.size = l.length := by rw [hls, Array.length_toList]; rfl
  rw [← hls] at hl ⊢
  obtain ⟨N, hN⟩ : ∃ N : Nat, N = (l.length * 6) / 8 := ⟨_, rfl⟩
  have HN : Hid (((l.length : Int) * 6) / 8 = (N : Int)) := by show _ = _; omega
  have hNl : N ≤ 1000000 := by omega
  have HN2 : ((l.length : Int) * 6).tdiv 8 = (N : Int) := by rw [Int.tdiv_eq_ediv_of_nonneg (by omega)]; exact unhide HN
  clear hN
  have Hs := hide hls
  clear hls
  go_enter Tryd.func34, Tryd.ntmps34
  go_wp2_with (refine wp_make0 _ rfl _ _ rfl w.heap.size _ _ _ N rfl rfl ?m1 (by omega) (Nat.le_refl _) ?_)
  case m1 => first | exact unhide HN | exact HN2 | omega
  intro a1 w1 ho1 hg1
  have hb1 : Below w.heap.size w w1 := below_grown (a := none) (Below.refl _ _) hg1 (Nat.le_refl _) (fun k hk => by simp [blk] at hk)
  clear hg1
  have HC : Hid (w.heap.size ≤ w1.heap.size) := hb1.size
  have HBit : Bit (w1.alloc (.cells #[.int .u64 0, .int .i64 0] 105)) w1.heap.size 0 0 := heap_alloc_new w1 _
  have ho2 := ho1.alloc (.cells #[.int .u64 0, .int .i64 0] 105)
  have hb2 := hb1.alloc hb1.size (.cells #[.int .u64 0, .int .i64 0] 105)
  clear hb1 ho1
  go_wp2
  generalize w1.alloc (.cells #[.int .u64 0, .int .i64 0] 105) = w2 at *
  generalize w1.heap.size = C at *
  go_loopw [4, 16] (fun v i wr => ∃ (k h c : Nat) (a' : Option Addr) (cap' : Nat) (r : List UInt8), k ≤ l.length ∧ i = .int .i64 (k : Int) ∧ v = .slice a' r.length cap' ∧ c < 8 ∧ Hid (h < 2 ^ c) ∧ r.length ≤ k ∧ Hid ((unR (l.drop k) h c).map (r ++ ·) = unR l 0 0) ∧ OwnB wr w.heap.size a' cap' r ∧ Bit wr C h c ∧ Below w.heap.size w wr) (fun _ i _ => l.length - (intOf i).toNat)
  case atStart => exact ⟨0, 0, 0, a1, N, [], Nat.zero_le _, rfl, rfl, by decide, (by show 0 < 2 ^ 0; decide), by decide, (by show _ = _; simp), ho2, HBit, hb2⟩
  case round =>
    clear ho2 HBit hb2
    obtain ⟨k, h, c, a', cap', r, hk, rfl, rfl, hc8, Hh, hrk, HR, ho, hbit, hb⟩ := hrel
    have hh256 : h < 256 := Nat.lt_of_lt_of_le (unhide Hh) (Nat.pow_le_pow_right (show 0 < 2 by decide) (show c ≤ 8 by omega))
    have hc1 := hbit.c1
    have hc0 := hbit.c0
    by_cases hlt : k < l.length
    · have hks : k < s.size := by omega
      have HD : Hid (l.drop k = s[k] :: l.drop (k + 1)) := by
        show _ = _
        rw [unhide Hs]
        exact str_drop s k hks
      go_wp2_with fail
      refine (letnum_any _ wr).mono ?_
      generalize s[k] = x at HD ⊢
      rintro e w' ⟨rfl, ⟨hn, rfl⟩ | ⟨n, hn, rfl⟩⟩
      · have HE : Hid (unR l 0 0 = none) := by
          show _ = _
          rw [← unhide HR, unhide HD, unR_none hn]
          rfl
        clear HR HD hn
        go_wp2
        go_ret2
        exact ⟨hb, .inl ⟨unhide HE, rfl⟩⟩
      · have hn64 := (let_num _ n hn).1
        have HV : Hid (h * 64 + n < 2 ^ (c + 6)) := by
          show _ < _
          have := unhide Hh
          rw [Nat.pow_add]
          omega
        have hV14 : h * 64 + n < 16384 := by omega
        have Hn := hide hn
        clear hn Hh
        go_wp2_with fail
        refine (put6 C h c n w' hbit (by omega) (by omega) hn64).mono ?_
        rintro e w3 ⟨rfl, hbit3, hg3⟩
        have hC := unhide HC
        have hb3 : Below w.heap.size w w3 := below_bit hb hg3 (Nat.le_refl _) hC
        have ho3 : OwnB w3 w.heap.size a' cap' r := ho.kept hg3 (hbit.ne ho)
        clear hbit ho hb hg3 hc1 hc0
        have hc1 := hbit3.c1
        by_cases h8 : 8 ≤ c + 6
        · have HR2 : Hid ((unR (l.drop (k + 1)) ((h * 64 + n) % 2 ^ (c - 2)) (c - 2)).map ((r ++ [UInt8.ofNat ((h * 64 + n) / 2 ^ (c - 2))]) ++ ·) = unR l 0 0) := by
            show _ = _
            rw [← unhide HR, unhide HD, unR_take (unhide Hn) h8, Option.map_map]
            congr 1
            funext y
            simp
          have HX : Hid ((h * 64 + n) / 2 ^ (c - 2) < 256) := by
            show _ < _
            rw [Nat.div_lt_iff_lt_mul (Nat.pow_pos (by decide))]
            have e : 2 ^ (c + 6) = 2 ^ (c - 2) * 256 := by rw [show (256 : Nat) = 2 ^ 8 by rfl, ← Nat.pow_add]; congr 1; omega
            have := unhide HV
            omega
          have HVm : Hid ((h * 64 + n) % 2 ^ (c - 2) < 2 ^ (c - 2)) := Nat.mod_lt _ (Nat.pow_pos (by decide))
          clear HR HD Hn HV
          generalize h * 64 + n = V at *
          go_wp2_with fail
          refine (take8 C V c w3 hbit3 (by omega) (by omega) (by omega)).mono ?_
          rintro e w4 ⟨rfl, hbit4, hg4⟩
          have hb4 : Below w.heap.size w w4 := below_bit hb3 hg4 (Nat.le_refl _) hC
          have ho4 : OwnB w4 w.heap.size a' cap' r := ho3.kept hg4 (hbit3.ne ho3)
          clear hbit3 ho3 hb3 hg4 hc1
          generalize V / 2 ^ (c - 2) = X at *
          generalize V % 2 ^ (c - 2) = V' at *
          have hX := unhide HX
          have hbs4 := hb4.size
          go_wp2_with (at_builtin; refine wp_app _ rfl _ _ rfl w.heap.size a' cap' r rfl (ho4.alloc _) (some ⟨w4.heap.size, 0, none⟩) 1 [UInt8.ofNat X] 1 rfl rfl (row_lit _ _ _ ?c1) (fun h => by cases h) ?c5 ?c6 ?_)
          case c1 => rw [toNat_of X hX]
          case c5 => simp; omega
          case c6 => simp; omega
          intro a2 cap2 r2 w5 hr2 ho5 hg5
          have hb5 : Below w.heap.size w w5 := below_grown (hb4.alloc hb4.size _) hg5 (Nat.le_refl _) (fun k hk => (ho4.lt k hk).1)
          have hbit5 : Bit w5 C V' (c - 2) := (hbit4.alloc _).kept hg5 (hbit4.ne ho4)
          have HR5 : Hid ((unR (l.drop (k + 1)) V' (c - 2)).map (r2 ++ ·) = unR l 0 0) := by
            show _ = _
            rw [unhide hr2, ← unhide HR2]
          have hrk2 : r2.length ≤ k + 1 := by rw [unhide hr2]; simp; omega
          clear hr2 hg5 ho4 hbit4 hb4 HR2
          go_wp2
          go_roundw
          case rel => exact ⟨k + 1, V', c - 2, a2, cap2, r2, by omega, by go_num, rfl, by omega, HVm, hrk2, HR5, ho5, hbit5, hb5⟩
          case measure => simp [intOf]; omega
        · have HR2 : Hid ((unR (l.drop (k + 1)) (h * 64 + n) (c + 6)).map (r ++ ·) = unR l 0 0) := by
            show _ = _
            rw [← unhide HR, unhide HD, unR_go (unhide Hn) (by omega)]
          clear HR HD Hn
          generalize h * 64 + n = V at *
          go_wp2
          go_roundw
          case rel => exact ⟨k + 1, V, c + 6, a', cap', r, by omega, by go_num, rfl, by omega, HV, by omega, HR2, ho3, hbit3, hb3⟩
          case measure => simp [intOf]; omega
    · obtain rfl : k = l.length := by omega
      have HE : Hid ((unR [] h c).map (r ++ ·) = unR l 0 0) := by
        have := unhide HR
        rw [List.drop_length] at this
        exact this
      clear HR
      by_cases h6 : 6 ≤ c
      · have HE2 : Hid (unR l 0 0 = none) := by
          show _ = _
          rw [← unhide HE]
          simp [unR, h6]
        clear HE
        go_wp2
        go_ret2
        exact ⟨hb, .inl ⟨unhide HE2, rfl⟩⟩
      · by_cases h0 : h = 0
        · subst h0
          have HE2 : Hid (unR l 0 0 = some r) := by
            show _ = _
            rw [← unhide HE]
            simp [unR, h6]
          clear HE
          go_wp2
          go_ret2
          exact ⟨hb, .inr ⟨a', cap', r, unhide HE2, rfl, ho⟩⟩
        · have HE2 : Hid (unR l 0 0 = none) := by
            show _ = _
            rw [← unhide HE]
            simp [unR, h0]
          clear HE
          have hne : ((h : Int) != 0) = true := by simp; omega
          go_wp2
          go_ret2
          exact ⟨hb, .inl ⟨unhide HE2, rfl⟩⟩
#print axioms unspell_any

end Go.Proofs.YtegbcjfceooflaaDoor
end
