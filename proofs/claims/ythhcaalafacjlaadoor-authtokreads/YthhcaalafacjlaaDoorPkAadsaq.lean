/-
  THE WALKS of wire.letterNumber, wire.Spell and wire.Unspell.; THE WALKS of wire.Spell and wire.Unspell.; THE WALKS of the reference's letter, Spell and Unspell.; THE WALK of the reference's Unspell.
-/
import Derived.Test.YthhcaalafacjlaaDoorPkAadsap
import Derived.Test.YthhcaalafacjlaaDoorPkAadsak
import Derived.Test.YthhcaalafacjlaaDoorPkAadsam
import Derived.Test.YthhcaalafacjlaaDoorPkAadsad
section
set_option linter.unusedVariables false
namespace Go.Proofs.YthhcaalafacjlaaDoor
open Go.RowKit

set_option maxHeartbeats 1000000 in
theorem letnum_any (c : UInt8) (w : World) :
    Calls Tryd.prog 64 #[.int .u8 (c.toNat : Int)] w fun e w' => w' = w ∧ ((numOf c = none ∧ e = .returned (.tuple #[.int .u64 0, .bool false])) ∨ ∃ n : Nat, numOf c = some n ∧ e = .returned (.tuple #[.int .u64 (n : Int), .bool true])) := by
  have hc := c.toNat_lt
  generalize hX : c.toNat = X at *
  have hnum : numOf c = if 65 ≤ X ∧ X ≤ 90 then some (X - 65) else if 97 ≤ X ∧ X ≤ 122 then some (X - 97 + 26) else if 48 ≤ X ∧ X ≤ 57 then some (X - 48 + 52) else if X = 45 then some 62 else if X = 95 then some 63 else none := by
    unfold numOf
    rw [hX]
  clear hX
  have HN := hide hnum
  clear hnum
  by_cases h1 : 65 ≤ X ∧ X ≤ 90
  · obtain ⟨h1, h2⟩ := h1
    obtain ⟨n, hn⟩ : ∃ n : Nat, n = X - 65 := ⟨_, rfl⟩
    have hni : (X : Int) - 65 = (n : Int) := by omega
    have hnl : n ≤ 25 := by omega
    have HE : Hid (numOf c = some n) := by show _ = _; rw [unhide HN, if_pos ⟨h1, h2⟩, hn]
    clear hn HN
    go_enter Tryd.func64, Tryd.ntmps64
    go_wp2
    go_ret2
    exact ⟨rfl, .inr ⟨n, unhide HE, rfl⟩⟩
  by_cases h2 : 97 ≤ X ∧ X ≤ 122
  · obtain ⟨h2, h3⟩ := h2
    have h4 : ¬ X ≤ 90 := by omega
    have h5 : 65 ≤ X := by omega
    obtain ⟨n, hn⟩ : ∃ n : Nat, n = X - 97 := ⟨_, rfl⟩
    have hni : (X : Int) - 97 = (n : Int) := by omega
    have hnl : n ≤ 25 := by omega
    have HE : Hid (numOf c = some (n + 26)) := by show _ = _; rw [unhide HN, if_neg h1, if_pos ⟨h2, h3⟩, hn]
    clear hn HN h1
    go_enter Tryd.func64, Tryd.ntmps64
    go_wp2
    go_ret2
    exact ⟨rfl, .inr ⟨n + 26, unhide HE, by simp⟩⟩
  by_cases h3 : 48 ≤ X ∧ X ≤ 57
  · obtain ⟨h3, h4⟩ := h3
    have h5 : ¬ 65 ≤ X := by omega
    have h6 : ¬ 97 ≤ X := by omega
    obtain ⟨n, hn⟩ : ∃ n : Nat, n = X - 48 := ⟨_, rfl⟩
    have hni : (X : Int) - 48 = (n : Int) := by omega
    have hnl : n ≤ 9 := by omega
    have HE : Hid (numOf c = some (n + 52)) := by show _ = _; rw [unhide HN, if_neg h1, if_neg h2, if_pos ⟨h3, h4⟩, hn]
    clear hn HN h1 h2
    go_enter Tryd.func64, Tryd.ntmps64
    go_wp2
    go_ret2
    exact ⟨rfl, .inr ⟨n + 52, unhide HE, by simp⟩⟩
  by_cases h4 : X = 45
  · subst h4
    have HE : Hid (numOf c = some 62) := by show _ = _; rw [unhide HN, if_neg h1, if_neg h2, if_neg h3, if_pos rfl]
    clear HN h1 h2 h3
    go_enter Tryd.func64, Tryd.ntmps64
    go_wp2
    go_ret2
    exact ⟨rfl, .inr ⟨62, unhide HE, rfl⟩⟩
  by_cases h5 : X = 95
  · subst h5
    have HE : Hid (numOf c = some 63) := by show _ = _; rw [unhide HN, if_neg h1, if_neg h2, if_neg h3, if_neg h4, if_pos rfl]
    clear HN h1 h2 h3 h4
    go_enter Tryd.func64, Tryd.ntmps64
    go_wp2
    go_ret2
    exact ⟨rfl, .inr ⟨63, unhide HE, rfl⟩⟩
  have HE : Hid (numOf c = none) := by show _ = _; rw [unhide HN, if_neg h1, if_neg h2, if_neg h3, if_neg h4, if_neg h5]
  clear HN
  have e1 : (decide (65 ≤ X) && decide (X ≤ 90)) = false := by simp; omega
  by_cases k1 : 65 ≤ X
  · have k2 : ¬ X ≤ 90 := by omega
    have k6 : ¬ X ≤ 57 := by omega
    have k5 : 48 ≤ X := by omega
    by_cases k3 : 97 ≤ X
    · have k4 : ¬ X ≤ 122 := by omega
      clear h1 h2 h3 h4 h5 e1
      have n1 : ((X : Int) == 45) = false := by simp; omega
      have n2 : ((X : Int) == 95) = false := by simp; omega
      go_enter Tryd.func64, Tryd.ntmps64
      go_wp2
      go_ret2
      exact ⟨rfl, .inl ⟨unhide HE, rfl⟩⟩
    · clear h1 h2 h3 h4 e1
      have n1 : ((X : Int) == 45) = false := by simp; omega
      have n2 : ((X : Int) == 95) = false := by simp; omega
      clear h5
      go_enter Tryd.func64, Tryd.ntmps64
      go_wp2
      go_ret2
      exact ⟨rfl, .inl ⟨unhide HE, rfl⟩⟩
  · have k3 : ¬ 97 ≤ X := by omega
    have n2 : ((X : Int) == 95) = false := by simp; omega
    have n1 : ((X : Int) == 45) = false := by simp; omega
    by_cases k5 : 48 ≤ X
    · have k6 : ¬ X ≤ 57 := by omega
      clear h1 h2 h3 h4 h5 e1
      go_enter Tryd.func64, Tryd.ntmps64
      go_wp2
      go_ret2
      exact ⟨rfl, .inl ⟨unhide HE, rfl⟩⟩
    · clear h1 h2 h3 h4 h5 e1
      go_enter Tryd.func64, Tryd.ntmps64
      go_wp2
      go_ret2
      exact ⟨rfl, .inl ⟨unhide HE, rfl⟩⟩

#print axioms letnum_any
end Go.Proofs.YthhcaalafacjlaaDoor
end
section
set_option linter.unusedVariables false
namespace Go.Proofs.YthhcaalafacjlaaDoor
open Go.RowKit

theorem Bit.ne {w : World} {base : Nat} {a : Option Addr} {cap : Nat} {r : List UInt8} {C h c : Nat} (b : Bit w C h c) (o : OwnB w base a cap r) : blk a = none ∨ blk a ≠ some C := by
  rcases o.cases with ⟨rfl, _, _⟩ | ⟨g, cur, rfl, _, hg, _⟩
  · exact .inl rfl
  · right
    intro e
    simp [blk] at e
    subst e
    unfold Bit at b
    rw [hg] at b
    simp at b
theorem Bit.lt {w : World} {C h c : Nat} (b : Bit w C h c) : C < w.heap.size := (Array.getElem?_eq_some_iff.1 b).1
theorem Bit.kept {w w' : World} {C h c : Nat} (b : Bit w C h c) {a : Option Addr} (hg : w.grownBy w' (blk a)) (hne : blk a = none ∨ blk a ≠ some C) : Bit w' C h c := by
  unfold Bit
  rw [hg.block C b.lt (by
    rcases hne with h | h
    · rw [h]; first | exact Option.some_ne_none _ | exact (Option.some_ne_none _).symm
    · first | exact h | exact h.symm)]
  exact b
theorem Bit.alloc {w : World} {C h c : Nat} (b : Bit w C h c) (o : Obj) : Bit (w.alloc o) C h c := by
  unfold Bit
  rw [((Below.refl w.heap.size w).alloc (Nat.le_refl _) o).block C b.lt]
  exact b
def cnt (w : World) (C : Nat) : Nat := (intOf ((w.cell? ⟨C, 1, none⟩).getD undef)).toNat
theorem cnt_bit {w : World} {C h c : Nat} (b : Bit w C h c) : cnt w C = c := by
  unfold cnt
  rw [b.c1]
  simp [intOf]
theorem below_bit {B C : Nat} {w0 w w' : World} (h : Below B w0 w) (hg : w.grownBy w' (some C)) (hB : B ≤ w0.heap.size) (hC : B ≤ C) : Below B w0 w' :=
  below_grown (a := some ⟨C, 0, none⟩) h hg hB (fun k hk => by simp [blk] at hk; omega)

theorem put8 (C h c x : Nat) (w : World) (b : Bit w C h c) (hh : h < 65536) (hc : c ≤ 64) (hx : x < 256) :
    Calls Tryd.prog 39 #[.pointer (some ⟨C, 0, none⟩), .int .u64 (x : Int), .int .i64 8] w fun e w' => e = .returned (.tuple #[]) ∧ Bit w' C (h * 256 + x) (c + 8) ∧ w.grownBy w' (some C) :=
  put_any C h c x 8 w b hh hc hx (by decide)
theorem take6 (C h c : Nat) (w : World) (b : Bit w C h c) (hh : h < 16777216) (h6 : 6 ≤ c) (hk : c ≤ 16) :
    Calls Tryd.prog 40 #[.pointer (some ⟨C, 0, none⟩), .int .i64 6] w fun e w' => e = .returned (.int .u64 ((h / 2 ^ (c - 6) : Nat) : Int)) ∧ Bit w' C (h % 2 ^ (c - 6)) (c - 6) ∧ w.grownBy w' (some C) :=
  take_any C h c 6 (c - 6) w b hh (by omega) (by omega) (by decide)

theorem lets_at : ∀ n : Fin 64, (lets.toArray[n.val]?) = some (lt n.val) := by decide +kernel
theorem run_lets (w : World) (X : Nat) (h : X < 64) : (Instr.index 9 (.string (str lets)) (.int .u64 (X : Int))).run Tryd.prog w = .ok (.int .u8 ((lt X).toNat : Int)) w := by
  rw [run_index_string w 9 (str lets) .u64 (X : Int) Tryd.underlying9]
  have hs : (str lets).size = 64 := rfl
  rw [dif_pos (by rw [hs]; omega)]
  have e := lets_at ⟨X, h⟩
  have e2 : ((str lets)[(X : Int).toNat]'(by rw [hs]; omega)) = lt X := by
    have : (lets.toArray[X]'(by show X < 64; exact h)) = lt X := by
      have e3 := Array.getElem?_eq_getElem (xs := lets.toArray) (i := X) (by show X < 64; exact h)
      rw [e3] at e
      exact Option.some.inj e
    exact this
  rw [e2]

theorem pow_div (V c : Nat) (h : V < 2 ^ c) (h6 : 6 ≤ c) : V / 2 ^ (c - 6) < 64 := by
  rw [Nat.div_lt_iff_lt_mul (Nat.pow_pos (by decide))]
  have : 2 ^ c = 2 ^ (c - 6) * 64 := by rw [show (64 : Nat) = 2 ^ 6 by rfl, ← Nat.pow_add]; congr 1; omega
  omega

set_option maxHeartbeats 2000000 in
theorem spell_any (a : Option Addr) (cap : Nat) (l : List UInt8) (w : World) (hB : Bs w a cap l) (hl : l.length ≤ 100000) :
    Calls Tryd.prog 23 #[.slice a l.length cap] w fun e w' => e = .returned (.string (str (spR l 0 0))) ∧ Below w.heap.size w w' := by
  have hsl := sp_length l
  obtain ⟨N, hN⟩ : ∃ N : Nat, N = (l.length * 8 + 6 - 1) / 6 := ⟨_, rfl⟩
  have HN : Hid (((l.length : Int) * 8 + 6 - 1) / 6 = (N : Int)) := by show _ = _; omega
  have hNl : N ≤ 1000000 := by omega
  have HN2 : ((l.length : Int) * 8 + 6 - 1).tdiv 6 = (N : Int) := by rw [Int.tdiv_eq_ediv_of_nonneg (by omega)]; exact unhide HN
  clear hN
  go_enter Tryd.func23, Tryd.ntmps23
  go_wp2_with (refine wp_make0 _ rfl _ _ rfl w.heap.size _ _ _ N rfl rfl ?m1 (by omega) (Nat.le_refl _) ?_)
  case m1 => first | exact unhide HN | exact HN2 | omega
  intro a1 w1 ho1 hg1
  have hb1 : Below w.heap.size w w1 := below_grown (a := none) (Below.refl _ _) hg1 (Nat.le_refl _) (fun k hk => by simp [blk] at hk)
  clear hg1
  have HC : Hid (w.heap.size ≤ w1.heap.size) := hb1.size
  have HBit : Bit (w1.alloc (.cells #[.int .u64 0, .int .i64 0] 75)) w1.heap.size 0 0 := heap_alloc_new w1 _
  have ho2 := ho1.alloc (.cells #[.int .u64 0, .int .i64 0] 75)
  have hb2 := hb1.alloc hb1.size (.cells #[.int .u64 0, .int .i64 0] 75)
  clear hb1 ho1
  go_wp2
  generalize w1.alloc (.cells #[.int .u64 0, .int .i64 0] 75) = w2 at *
  generalize w1.heap.size = C at *
  go_loopw [3, 16] (fun v i wr => ∃ (k h c : Nat) (a' : Option Addr) (cap' : Nat) (r : List UInt8), k ≤ l.length ∧ i = .int .i64 (k : Int) ∧ v = .slice a' r.length cap' ∧ c < 6 ∧ Hid (h < 2 ^ c) ∧ Hid (r ++ spR (l.drop k) h c = spR l 0 0) ∧ OwnB wr w.heap.size a' cap' r ∧ Bit wr C h c ∧ Below w.heap.size w wr) (fun _ i _ => l.length - (intOf i).toNat)
  case atStart => exact ⟨0, 0, 0, a1, N, [], Nat.zero_le _, rfl, rfl, by decide, (by show 0 < 2 ^ 0; decide), rfl, ho2, HBit, hb2⟩
  case round =>
    clear ho2 HBit hb2
    obtain ⟨k, h, c, a', cap', r, hk, rfl, rfl, hc6, Hh, HR, ho, hbit, hb⟩ := hrel
    have hh64 : h < 64 := Nat.lt_of_lt_of_le (unhide Hh) (Nat.pow_le_pow_right (show 0 < 2 by decide) (show c ≤ 6 by omega))
    have hrl : r.length ≤ 200000 := by
      have := congrArg List.length (unhide HR)
      simp only [List.length_append] at this
      omega
    by_cases hlt : k < l.length
    · obtain ⟨b, off, rfl, hcell⟩ := hB.row (by intro e; subst e; simp at hlt)
      have hcellk := (hB.row.below hb (Nat.le_refl _))
      obtain ⟨b', off', hh', hcw⟩ := hcellk (by intro e; subst e; simp at hlt)
      obtain ⟨rfl, rfl⟩ : b = b' ∧ off = off' := by simpa using Option.some.inj hh'
      have hck := hcw k hlt
      clear hcw hcell hh'
      obtain ⟨X, hX⟩ : ∃ X : Nat, (l.getD k 0).toNat = X := ⟨_, rfl⟩
      have hXl : X < 256 := by rw [← hX]; exact (l.getD k 0).toNat_lt
      have HR1 : Hid (r ++ drn (h * 256 + X) (c + 8) (spR (l.drop (k + 1))) = spR l 0 0) := by
        have := unhide HR
        rw [List.drop_eq_getElem_cons hlt] at this
        have e : l[k].toNat = X := by rw [← hX]; simp [hlt]
        show _ = _
        rw [← this, ← e]
        rfl
      have HV : Hid (h * 256 + X < 2 ^ (c + 8)) := by
        show _ < _
        have := unhide Hh
        rw [Nat.pow_add]
        omega
      rw [hX] at hck
      clear hX HR Hh
      go_wp2_with fail
      refine (put8 C h c X wr hbit (by omega) (by omega) hXl).mono ?_
      rintro e w3 ⟨rfl, hbit3, hg3⟩
      have hC := unhide HC
      have hb3 : Below w.heap.size w w3 := below_bit hb hg3 (Nat.le_refl _) hC
      have ho3 : OwnB w3 w.heap.size a' cap' r := ho.kept hg3 (hbit.ne ho)
      clear hbit ho hb hg3
      generalize h * 256 + X = V at *
      go_wp2
      go_loopw [3] (fun v wr => ∃ (V c : Nat) (a' : Option Addr) (cap' : Nat) (r : List UInt8), v = .slice a' r.length cap' ∧ c < 14 ∧ Hid (V < 2 ^ c) ∧ Hid (r ++ drn V c (spR (l.drop (k + 1))) = spR l 0 0) ∧ OwnB wr w.heap.size a' cap' r ∧ Bit wr C V c ∧ Below w.heap.size w wr) (fun _ wr => cnt wr C)
      case atStart => exact ⟨V, c + 8, a', cap', r, rfl, by omega, HV, HR1, ho3, hbit3, hb3⟩
      case round =>
        clear ho3 hbit3 hb3 HR1 HV hck
        obtain ⟨V, c, a', cap', r, rfl, hc14, HV, HR, ho, hbit, hb⟩ := hrel
        have hV14 : V < 16384 := Nat.lt_of_lt_of_le (unhide HV) (Nat.pow_le_pow_right (show 0 < 2 by decide) (show c ≤ 14 by omega))
        have hrl : r.length ≤ 200000 := by
          have := congrArg List.length (unhide HR)
          simp only [List.length_append] at this
          omega
        have hc1 := hbit.c1
        by_cases h6 : 6 ≤ c
        · have HX : Hid (V / 2 ^ (c - 6) < 64) := pow_div V c (unhide HV) h6
          have HVm : Hid (V % 2 ^ (c - 6) < 2 ^ (c - 6)) := Nat.mod_lt _ (Nat.pow_pos (by decide))
          have HR2 : Hid (r ++ lt (V / 2 ^ (c - 6)) :: drn (V % 2 ^ (c - 6)) (c - 6) (spR (l.drop (k + 1))) = spR l 0 0) := by
            show _ = _
            rw [← drn_go V c _ h6]
            exact unhide HR
          have Hcnt : Hid (cnt wr C = c) := cnt_bit hbit
          go_wp2_with fail
          refine (take6 C V c wr hbit (by omega) h6 (by omega)).mono ?_
          rintro e w4 ⟨rfl, hbit4, hg4⟩
          have hC := unhide HC
          have hb4 : Below w.heap.size w w4 := below_bit hb hg4 (Nat.le_refl _) hC
          have ho4 : OwnB w4 w.heap.size a' cap' r := ho.kept hg4 (hbit.ne ho)
          clear hbit ho hb hg4 HR hc1
          generalize V / 2 ^ (c - 6) = X at *
          generalize V % 2 ^ (c - 6) = V' at *
          have hidx : (Instr.index 9 (.string { data := #[65, 66, 67, 68, 69, 70, 71, 72, 73, 74, 75, 76, 77, 78, 79, 80, 81, 82, 83, 84, 85, 86, 87, 88, 89, 90, 97, 98, 99, 100, 101, 102, 103, 104, 105, 106, 107, 108, 109, 110, 111, 112, 113, 114, 115, 116, 117, 118, 119, 120, 121, 122, 48, 49, 50, 51, 52, 53, 54, 55, 56, 57, 45, 95] }) (.int .u64 (X : Int))).run Tryd.prog w4 = .ok (.int .u8 ((lt X).toNat : Int)) w4 := run_lets w4 X (unhide HX)
          have hbs4 := hb4.size
          go_wp2_with (at_builtin; refine wp_app _ rfl _ _ rfl w.heap.size a' cap' r rfl (ho4.alloc _) (some ⟨w4.heap.size, 0, none⟩) 1 [lt X] 1 rfl rfl (row_lit _ _ _ rfl) (fun h => by cases h) ?c5 ?c6 ?_)
          case c5 => simp; omega
          case c6 => simp; omega
          intro a2 cap2 r2 w5 hr2 ho5 hg5
          have hb5 : Below w.heap.size w w5 := below_grown (hb4.alloc hb4.size _) hg5 (Nat.le_refl _) (fun k hk => (ho4.lt k hk).1)
          have hbit5 : Bit w5 C V' (c - 6) := (hbit4.alloc _).kept hg5 (hbit4.ne ho4)
          have HR5 : Hid (r2 ++ drn V' (c - 6) (spR (l.drop (k + 1))) = spR l 0 0) := by
            show _ = _
            rw [unhide hr2, ← unhide HR2]
            simp
          clear hr2 hg5 ho4 hbit4 hb4 hidx HR2
          go_wp2
          go_roundw
          case rel => exact ⟨V', c - 6, a2, cap2, r2, rfl, by omega, HVm, HR5, ho5, hbit5, hb5⟩
          case measure => rw [cnt_bit hbit5, unhide Hcnt]; omega
        · have HR2 : Hid (r ++ spR (l.drop (k + 1)) V c = spR l 0 0) := by
            show _ = _
            rw [← drn_end V c (spR (l.drop (k + 1))) (by omega)]
            exact unhide HR
          clear HR
          go_wp2
          go_roundw
          case rel => exact ⟨k + 1, V, c, a', cap', r, by omega, by go_num, rfl, by omega, HV, HR2, ho, hbit, hb⟩
          case measure => simp [intOf]; omega
    · obtain rfl : k = l.length := by omega
      have HE : Hid (r ++ spR [] h c = spR l 0 0) := by
        have := unhide HR
        rw [List.drop_length] at this
        exact this
      clear HR
      have hc1 := hbit.c1
      by_cases hc0 : c = 0
      · subst hc0
        have HE2 : Hid (r = spR l 0 0) := by
          show _ = _
          rw [← unhide HE]
          simp [spR]
        have hstr := run_str wr a' r.length cap' r ho.toBs.row rfl
        clear HE
        go_wp2
        go_ret
        exact ⟨by have e := unhide HE2; rw [← e]; rfl, hb⟩
      · have hcp : 0 < c := by omega
        obtain ⟨D, hD⟩ : ∃ D : Nat, 6 - c = D := ⟨_, rfl⟩
        have hDi : (6 : Int) - (c : Int) = (D : Int) := by omega
        have HE2 : Hid (r ++ [lt (h * 2 ^ D)] = spR l 0 0) := by
          show _ = _
          rw [← unhide HE, ← hD]
          simp [spR, hcp]
        have HX : Hid (h * 2 ^ D < 64) := by
          show _ < _
          have e : 2 ^ c * 2 ^ D = 64 := by rw [← Nat.pow_add, show c + D = 6 by omega]
          have := Nat.mul_lt_mul_of_pos_right (unhide Hh) (show 0 < 2 ^ D from Nat.pow_pos (by decide))
          omega
        have hDl : D ≤ 5 := by omega
        have hcD : c + D = 6 := by omega
        clear HE hD Hh
        go_wp2_with fail
        refine (put_any C h c 0 D wr hbit (by omega) (by omega) (Nat.pow_pos (by decide)) (by omega)).mono ?_
        rintro e w3 ⟨rfl, hbit3, hg3⟩
        have hC := unhide HC
        have hb3 : Below w.heap.size w w3 := below_bit hb hg3 (Nat.le_refl _) hC
        have ho3 : OwnB w3 w.heap.size a' cap' r := ho.kept hg3 (hbit.ne ho)
        rw [hcD, Nat.add_zero] at hbit3
        clear hbit ho hb hg3 hc1
        generalize h * 2 ^ D = X at *
        have hX64 := unhide HX
        go_wp2_with fail
        refine (take6 C X 6 w3 hbit3 (by omega) (Nat.le_refl _) (by decide)).mono ?_
        rintro e w4 ⟨rfl, hbit4, hg4⟩
        have hb4 : Below w.heap.size w w4 := below_bit hb3 hg4 (Nat.le_refl _) hC
        have ho4 : OwnB w4 w.heap.size a' cap' r := ho3.kept hg4 (hbit3.ne ho3)
        clear hbit3 ho3 hb3 hg4 hbit4
        have hX1 : X / 2 ^ (6 - 6) = X := by simp
        rw [hX1]
        have hidx : (Instr.index 9 (.string { data := #[65, 66, 67, 68, 69, 70, 71, 72, 73, 74, 75, 76, 77, 78, 79, 80, 81, 82, 83, 84, 85, 86, 87, 88, 89, 90, 97, 98, 99, 100, 101, 102, 103, 104, 105, 106, 107, 108, 109, 110, 111, 112, 113, 114, 115, 116, 117, 118, 119, 120, 121, 122, 48, 49, 50, 51, 52, 53, 54, 55, 56, 57, 45, 95] }) (.int .u64 (X : Int))).run Tryd.prog w4 = .ok (.int .u8 ((lt X).toNat : Int)) w4 := run_lets w4 X hX64
        have hbs4 := hb4.size
        go_wp2_with (at_builtin; refine wp_app _ rfl _ _ rfl w.heap.size a' cap' r rfl (ho4.alloc _) (some ⟨w4.heap.size, 0, none⟩) 1 [lt X] 1 rfl rfl (row_lit _ _ _ rfl) (fun h => by cases h) ?c5 ?c6 ?_)
        case c5 => simp; omega
        case c6 => simp; omega
        intro a2 cap2 r2 w5 hr2 ho5 hg5
        have hb5 : Below w.heap.size w w5 := below_grown (hb4.alloc hb4.size _) hg5 (Nat.le_refl _) (fun k hk => (ho4.lt k hk).1)
        have HR5 : Hid (r2 = spR l 0 0) := by
          show _ = _
          rw [unhide hr2, ← unhide HE2]
        clear hr2 hg5 ho4 hb4 hidx HE2
        have hstr := run_str w5 a2 r2.length cap2 r2 ho5.toBs.row rfl
        go_wp2
        go_ret
        exact ⟨by have e := unhide HR5; rw [← e]; rfl, hb5⟩
#print axioms spell_any

theorem str_eq (s : ByteArray) (l : List UInt8) (h : l = s.data.toList) : str l = s := by
  subst h
  rcases s with ⟨d⟩
  simp [str]
theorem str_drop (s : ByteArray) (k : Nat) (h : k < s.size) : s.data.toList.drop k = s[k] :: s.data.toList.drop (k + 1) := by
  have h2 : k < s.data.toList.length := by rw [Array.length_toList]; exact h
  rw [List.drop_eq_getElem_cons h2]
  congr 1
theorem put6 (C h c x : Nat) (w : World) (b : Bit w C h c) (hh : h < 65536) (hc : c ≤ 64) (hx : x < 64) :
    Calls Tryd.prog 39 #[.pointer (some ⟨C, 0, none⟩), .int .u64 (x : Int), .int .i64 6] w fun e w' => e = .returned (.tuple #[]) ∧ Bit w' C (h * 64 + x) (c + 6) ∧ w.grownBy w' (some C) :=
  put_any C h c x 6 w b hh hc hx (by decide)
theorem take8 (C h c : Nat) (w : World) (b : Bit w C h (c + 6)) (hh : h < 16777216) (h6 : 2 ≤ c) (hk : c ≤ 16) :
    Calls Tryd.prog 40 #[.pointer (some ⟨C, 0, none⟩), .int .i64 8] w fun e w' => e = .returned (.int .u64 ((h / 2 ^ (c - 2) : Nat) : Int)) ∧ Bit w' C (h % 2 ^ (c - 2)) (c - 2) ∧ w.grownBy w' (some C) :=
  take_any C h (c + 6) 8 (c - 2) w b hh (by omega) (by omega) (by decide)

set_option maxHeartbeats 2000000 in
theorem unspell_any (s : ByteArray) (w : World) (hl : s.data.toList.length ≤ 100000) :
    Calls Tryd.prog 47 #[.string s] w fun e w' => Below w.heap.size w w' ∧
      ((unR s.data.toList 0 0 = none ∧ e = .returned (.tuple #[.slice none 0 0, .bool false])) ∨
       ∃ a cap r, unR s.data.toList 0 0 = some r ∧ e = .returned (.tuple #[.slice a r.length cap, .bool true]) ∧ OwnB w' w.heap.size a cap r) := by
  obtain ⟨l, hls⟩ : ∃ l : List UInt8, l = s.data.toList := ⟨_, rfl⟩
  have hsz : s.size = l.length := by rw [hls, Array.length_toList]; rfl
  rw [← hls] at hl ⊢
  obtain ⟨N, hN⟩ : ∃ N : Nat, N = (l.length * 6) / 8 := ⟨_, rfl⟩
  have HN : Hid (((l.length : Int) * 6) / 8 = (N : Int)) := by show _ = _; omega
  have hNl : N ≤ 1000000 := by omega
  have HN2 : ((l.length : Int) * 6).tdiv 8 = (N : Int) := by rw [Int.tdiv_eq_ediv_of_nonneg (by omega)]; exact unhide HN
  clear hN
  have Hs := hide hls
  clear hls
  go_enter Tryd.func47, Tryd.ntmps47
  go_wp2_with (refine wp_make0 _ rfl _ _ rfl w.heap.size _ _ _ N rfl rfl ?m1 (by omega) (Nat.le_refl _) ?_)
  case m1 => first | exact unhide HN | exact HN2 | omega
  intro a1 w1 ho1 hg1
  have hb1 : Below w.heap.size w w1 := below_grown (a := none) (Below.refl _ _) hg1 (Nat.le_refl _) (fun k hk => by simp [blk] at hk)
  clear hg1
  have HC : Hid (w.heap.size ≤ w1.heap.size) := hb1.size
  have HBit : Bit (w1.alloc (.cells #[.int .u64 0, .int .i64 0] 75)) w1.heap.size 0 0 := heap_alloc_new w1 _
  have ho2 := ho1.alloc (.cells #[.int .u64 0, .int .i64 0] 75)
  have hb2 := hb1.alloc hb1.size (.cells #[.int .u64 0, .int .i64 0] 75)
  clear hb1 ho1
  go_wp2
  generalize w1.alloc (.cells #[.int .u64 0, .int .i64 0] 75) = w2 at *
  generalize w1.heap.size = C at *
  go_loopw [4, 16] (fun v i wr => ∃ (k h c : Nat) (a' : Option Addr) (cap' : Nat) (r : List UInt8), k ≤ l.length ∧ i = .int .i64 (k : Int) ∧ v = .slice a' r.length cap' ∧ c < 8 ∧ Hid (h < 2 ^ c) ∧ r.length ≤ k ∧ Hid ((unR (l.drop k) h c).map (r ++ ·) = unR l 0 0) ∧ OwnB wr w.heap.size a' cap' r ∧ Bit wr C h c ∧ Below w.heap.size w wr) (fun _ i _ => l.length - (intOf i).toNat)
  case atStart => exact ⟨0, 0, 0, a1, N, [], Nat.zero_le _, rfl, rfl, by decide, (by show 0 < 2 ^ 0; decide), by decide, (by show _ = _; simp), ho2, HBit, hb2⟩
  case round =>
    clear ho2 HBit hb2
    obtain ⟨k, h, c, a', cap', r, hk, rfl, rfl, hc8, Hh, hrk, HR, ho, hbit, hb⟩ := hrel
    have hh256 : h < 256 := Nat.lt_of_lt_of_le (unhide Hh) (Nat.pow_le_pow_right (show 0 < 2 by decide) (show c ≤ 8 by omega))
    have hc1 := hbit.c1
    have hc0 := hbit.c0
    by_cases hlt : k < l.length
    · have hks : k < s.size := by omega
      have HD : Hid (l.drop k = s[k] :: l.drop (k + 1)) := by
        show _ = _
        rw [unhide Hs]
        exact str_drop s k hks
      go_wp2_with fail
      refine (letnum_any _ wr).mono ?_
      generalize s[k] = x at HD ⊢
      rintro e w' ⟨rfl, ⟨hn, rfl⟩ | ⟨n, hn, rfl⟩⟩
      · have HE : Hid (unR l 0 0 = none) := by
          show _ = _
          rw [← unhide HR, unhide HD, unR_none hn]
          rfl
        clear HR HD hn
        go_wp2
        go_ret2
        exact ⟨hb, .inl ⟨unhide HE, rfl⟩⟩
      · have hn64 := (let_num _ n hn).1
        have HV : Hid (h * 64 + n < 2 ^ (c + 6)) := by
          show _ < _
          have := unhide Hh
          rw [Nat.pow_add]
          omega
        have hV14 : h * 64 + n < 16384 := by omega
        have Hn := hide hn
        clear hn Hh
        go_wp2_with fail
        refine (put6 C h c n w' hbit (by omega) (by omega) hn64).mono ?_
        rintro e w3 ⟨rfl, hbit3, hg3⟩
        have hC := unhide HC
        have hb3 : Below w.heap.size w w3 := below_bit hb hg3 (Nat.le_refl _) hC
        have ho3 : OwnB w3 w.heap.size a' cap' r := ho.kept hg3 (hbit.ne ho)
        clear hbit ho hb hg3 hc1 hc0
        have hc1 := hbit3.c1
        by_cases h8 : 8 ≤ c + 6
        · have HR2 : Hid ((unR (l.drop (k + 1)) ((h * 64 + n) % 2 ^ (c - 2)) (c - 2)).map ((r ++ [UInt8.ofNat ((h * 64 + n) / 2 ^ (c - 2))]) ++ ·) = unR l 0 0) := by
            show _ = _
            rw [← unhide HR, unhide HD, unR_take (unhide Hn) h8, Option.map_map]
            congr 1
            funext y
            simp
          have HX : Hid ((h * 64 + n) / 2 ^ (c - 2) < 256) := by
            show _ < _
            rw [Nat.div_lt_iff_lt_mul (Nat.pow_pos (by decide))]
            have e : 2 ^ (c + 6) = 2 ^ (c - 2) * 256 := by rw [show (256 : Nat) = 2 ^ 8 by rfl, ← Nat.pow_add]; congr 1; omega
            have := unhide HV
            omega
          have HVm : Hid ((h * 64 + n) % 2 ^ (c - 2) < 2 ^ (c - 2)) := Nat.mod_lt _ (Nat.pow_pos (by decide))
          clear HR HD Hn HV
          generalize h * 64 + n = V at *
          go_wp2_with fail
          refine (take8 C V c w3 hbit3 (by omega) (by omega) (by omega)).mono ?_
          rintro e w4 ⟨rfl, hbit4, hg4⟩
          have hb4 : Below w.heap.size w w4 := below_bit hb3 hg4 (Nat.le_refl _) hC
          have ho4 : OwnB w4 w.heap.size a' cap' r := ho3.kept hg4 (hbit3.ne ho3)
          clear hbit3 ho3 hb3 hg4 hc1
          generalize V / 2 ^ (c - 2) = X at *
          generalize V % 2 ^ (c - 2) = V' at *
          have hX := unhide HX
          have hbs4 := hb4.size
          go_wp2_with (at_builtin; refine wp_app _ rfl _ _ rfl w.heap.size a' cap' r rfl (ho4.alloc _) (some ⟨w4.heap.size, 0, none⟩) 1 [UInt8.ofNat X] 1 rfl rfl (row_lit _ _ _ ?c1) (fun h => by cases h) ?c5 ?c6 ?_)
          case c1 => rw [toNat_of X hX]
          case c5 => simp; omega
          case c6 => simp; omega
          intro a2 cap2 r2 w5 hr2 ho5 hg5
          have hb5 : Below w.heap.size w w5 := below_grown (hb4.alloc hb4.size _) hg5 (Nat.le_refl _) (fun k hk => (ho4.lt k hk).1)
          have hbit5 : Bit w5 C V' (c - 2) := (hbit4.alloc _).kept hg5 (hbit4.ne ho4)
          have HR5 : Hid ((unR (l.drop (k + 1)) V' (c - 2)).map (r2 ++ ·) = unR l 0 0) := by
            show _ = _
            rw [unhide hr2, ← unhide HR2]
          have hrk2 : r2.length ≤ k + 1 := by rw [unhide hr2]; simp; omega
          clear hr2 hg5 ho4 hbit4 hb4 HR2
          go_wp2
          go_roundw
          case rel => exact ⟨k + 1, V', c - 2, a2, cap2, r2, by omega, by go_num, rfl, by omega, HVm, hrk2, HR5, ho5, hbit5, hb5⟩
          case measure => simp [intOf]; omega
        · have HR2 : Hid ((unR (l.drop (k + 1)) (h * 64 + n) (c + 6)).map (r ++ ·) = unR l 0 0) := by
            show _ = _
            rw [← unhide HR, unhide HD, unR_go (unhide Hn) (by omega)]
          clear HR HD Hn
          generalize h * 64 + n = V at *
          go_wp2
          go_roundw
          case rel => exact ⟨k + 1, V, c + 6, a', cap', r, by omega, by go_num, rfl, by omega, HV, by omega, HR2, ho3, hbit3, hb3⟩
          case measure => simp [intOf]; omega
    · obtain rfl : k = l.length := by omega
      have HE : Hid ((unR [] h c).map (r ++ ·) = unR l 0 0) := by
        have := unhide HR
        rw [List.drop_length] at this
        exact this
      clear HR
      by_cases h6 : 6 ≤ c
      · have HE2 : Hid (unR l 0 0 = none) := by
          show _ = _
          rw [← unhide HE]
          simp [unR, h6]
        clear HE
        go_wp2
        go_ret2
        exact ⟨hb, .inl ⟨unhide HE2, rfl⟩⟩
      · by_cases h0 : h = 0
        · subst h0
          have HE2 : Hid (unR l 0 0 = some r) := by
            show _ = _
            rw [← unhide HE]
            simp [unR, h6]
          clear HE
          go_wp2
          go_ret2
          exact ⟨hb, .inr ⟨a', cap', r, unhide HE2, rfl, ho⟩⟩
        · have HE2 : Hid (unR l 0 0 = none) := by
            show _ = _
            rw [← unhide HE]
            simp [unR, h0]
          clear HE
          have hne : ((h : Int) != 0) = true := by simp; omega
          go_wp2
          go_ret2
          exact ⟨hb, .inl ⟨unhide HE2, rfl⟩⟩
#print axioms unspell_any

end Go.Proofs.YthhcaalafacjlaaDoor
end
section
set_option linter.unusedVariables false
namespace Go.Proofs.YthhcaalafacjlaaDoor
open Go.RowKit

theorem run_letsi (w : World) (X : Nat) (h : X < 64) : (Instr.index 9 (.string { data := #[65, 66, 67, 68, 69, 70, 71, 72, 73, 74, 75, 76, 77, 78, 79, 80, 81, 82, 83, 84, 85, 86, 87, 88, 89, 90, 97, 98, 99, 100, 101, 102, 103, 104, 105, 106, 107, 108, 109, 110, 111, 112, 113, 114, 115, 116, 117, 118, 119, 120, 121, 122, 48, 49, 50, 51, 52, 53, 54, 55, 56, 57, 45, 95] }) (.int .i64 (X : Int))).run Tryd.prog w = .ok (.int .u8 ((lt X).toNat : Int)) w := by
  have e0 : (ByteArray.mk #[65, 66, 67, 68, 69, 70, 71, 72, 73, 74, 75, 76, 77, 78, 79, 80, 81, 82, 83, 84, 85, 86, 87, 88, 89, 90, 97, 98, 99, 100, 101, 102, 103, 104, 105, 106, 107, 108, 109, 110, 111, 112, 113, 114, 115, 116, 117, 118, 119, 120, 121, 122, 48, 49, 50, 51, 52, 53, 54, 55, 56, 57, 45, 95]) = str lets := rfl
  rw [e0, run_index_string w 9 (str lets) .i64 (X : Int) Tryd.underlying9]
  have hs : (str lets).size = 64 := rfl
  rw [dif_pos (by rw [hs]; omega)]
  have e := lets_at ⟨X, h⟩
  have e2 : ((str lets)[(X : Int).toNat]'(by rw [hs]; omega)) = lt X := by
    have : (lets.toArray[X]'(by show X < 64; exact h)) = lt X := by
      have e3 := Array.getElem?_eq_getElem (xs := lets.toArray) (i := X) (by show X < 64; exact h)
      rw [e3] at e
      exact Option.some.inj e
    exact this
  rw [e2]

theorem letter_any (X : Nat) (w : World) (h : X < 64) :
    Calls Tryd.prog 54 #[.int .i64 (X : Int)] w fun e w' => e = .returned (.int .u8 ((lt X).toNat : Int)) ∧ w' = w := by
  have hidx := run_letsi w X h
  go_enter Tryd.func54, Tryd.ntmps54
  go_wp2
  go_ret
  exact ⟨rfl, rfl⟩

theorem tmodn (m n : Nat) : (m : Int).tmod (n : Int) = ((m % n : Nat) : Int) := rfl
def slnS : Value → Nat
  | .slice _ n _ => n
  | _ => 0

set_option maxHeartbeats 4000000 in
theorem rspell_any (a : Option Addr) (cap : Nat) (l : List UInt8) (w : World) (hB : Bs w a cap l) (hl : l.length ≤ 100000) :
    Calls Tryd.prog 43 #[.slice a l.length cap] w fun e w' => e = .returned (.string (str (spR l 0 0))) ∧ Below w.heap.size w w' := by
  have hbl := bits8_length l
  go_enter Tryd.func43, Tryd.ntmps43
  go_wp2
  go_loopw [3, 13] (fun v i wr => ∃ (k : Nat) (a' : Option Addr) (cap' : Nat) (B : List Nat), k ≤ l.length ∧ i = .int .i64 (k : Int) ∧ v = .slice a' B.length cap' ∧ Hid (B ++ bits8 (l.drop k) = bits8 l) ∧ OwnI wr w.heap.size a' cap' B ∧ Below w.heap.size w wr) (fun _ i _ => l.length - (intOf i).toNat)
  case atStart => exact ⟨0, none, 0, [], Nat.zero_le _, rfl, rfl, rfl, OwnI.nil _ _, Below.refl _ _⟩
  case round =>
    obtain ⟨k, a', cap', B, hk, rfl, rfl, HR, ho, hb⟩ := hrel
    have hBl : B.length ≤ 8 * l.length := by
      have := congrArg List.length (unhide HR)
      simp only [List.length_append] at this
      omega
    by_cases hlt : k < l.length
    · obtain ⟨b, off, rfl, hcell⟩ := hB.row (by intro e; subst e; simp at hlt)
      have hcellk := (hB.row.below hb (Nat.le_refl _))
      obtain ⟨b', off', hh', hcw⟩ := hcellk (by intro e; subst e; simp at hlt)
      obtain ⟨rfl, rfl⟩ : b = b' ∧ off = off' := by simpa using Option.some.inj hh'
      have hck := hcw k hlt
      clear hcw hcell hh'
      obtain ⟨X, hX⟩ : ∃ X : Nat, (l.getD k 0).toNat = X := ⟨_, rfl⟩
      have hXl : X < 256 := by rw [← hX]; exact (l.getD k 0).toNat_lt
      have HR1 : Hid (B ++ bl X 8 ++ bits8 (l.drop (k + 1)) = bits8 l) := by
        have := unhide HR
        rw [List.drop_eq_getElem_cons hlt, bits8_cons] at this
        have e : l[k].toNat = X := by rw [← hX]; simp [hlt]
        show _ = _
        rw [← this, ← e, List.append_assoc]
      rw [hX] at hck
      clear hX HR
      go_wp2
      go_loopw [3, 6] (fun v i wr => ∃ (n : Nat) (a' : Option Addr) (cap' : Nat) (B : List Nat), n ≤ 8 ∧ i = .int .i64 ((n : Int) - 1) ∧ v = .slice a' B.length cap' ∧ Hid (B ++ bl X n ++ bits8 (l.drop (k + 1)) = bits8 l) ∧ OwnI wr w.heap.size a' cap' B ∧ Below w.heap.size w wr) (fun _ i _ => (intOf i + 1).toNat)
      case atStart => exact ⟨8, a', cap', B, Nat.le_refl _, rfl, rfl, HR1, ho, hb⟩
      case round =>
        clear HR1 ho hb hck hBl
        obtain ⟨n, a', cap', B, hn, rfl, rfl, HR, ho, hb⟩ := hrel
        have hBl : B.length ≤ 8 * l.length := by
          have := congrArg List.length (unhide HR)
          simp only [List.length_append] at this
          omega
        rcases n with _ | n
        · have HR2 : Hid (B ++ bits8 (l.drop (k + 1)) = bits8 l) := by
            show _ = _
            have := unhide HR
            simpa [bl] using this
          clear HR
          have h0 : ((0 : Nat) : Int) - 1 = -1 := by omega
          rw [h0]
          go_wp2
          go_roundw
          case rel => exact ⟨k + 1, a', cap', B, by omega, by go_num, rfl, HR2, ho, hb⟩
          case measure => simp [intOf]; omega
        · have hn1 : ((n + 1 : Nat) : Int) - 1 = (n : Int) := by omega
          rw [hn1]
          have hbs := hb.size
          obtain ⟨Y, hY⟩ : ∃ Y : Nat, Y = X / 2 ^ n := ⟨_, rfl⟩
          have hYi : (X : Int) / 2 ^ n = (Y : Int) := by rw [hY]; simp
          obtain ⟨M, hM⟩ : ∃ M : Nat, M = Y % 2 := ⟨_, rfl⟩
          have hM1 : (Y : Int).tmod 2 = (M : Int) := by rw [hM]; exact tmodn Y 2
          have hM2 : (Y : Int) % 2 = (M : Int) := by rw [hM]; simp
          have HR2 : Hid (B ++ [M] ++ bl X n ++ bits8 (l.drop (k + 1)) = bits8 l) := by
            show _ = _
            rw [← unhide HR, hM, hY]
            simp [bl]
          clear HR hY hM
          go_wp2_with (at_builtin; refine wp_appi _ rfl _ _ rfl w.heap.size a' cap' B rfl (ho.alloc _) wr.heap.size 1 M rfl (cell_liti _ _ _ ?c1) ?c5 ?c6 ?_)
          case c1 => first | rfl | assumption | omega
          case c5 => omega
          case c6 => simp; omega
          intro a2 cap2 B2 w5 hr2 ho5 hg5
          have hb5 : Below w.heap.size w w5 := below_grown (hb.alloc hb.size _) hg5 (Nat.le_refl _) (fun k hk => (ho.lt k hk).1)
          have HR5 : Hid (B2 ++ bl X n ++ bits8 (l.drop (k + 1)) = bits8 l) := by
            show _ = _
            rw [unhide hr2, ← unhide HR2]
          clear hr2 hg5 ho hb HR2
          go_wp2
          go_roundw
          case rel => exact ⟨n, a2, cap2, B2, by omega, by go_num, rfl, HR5, ho5, hb5⟩
          case measure => simp [intOf]
    · obtain rfl : k = l.length := by omega
      have HE : Hid (B = bits8 l) := by
        show _ = _
        have := unhide HR
        rw [List.drop_length] at this
        simpa [bits8] using this
      have HG : Hid (gr B = spR l 0 0) := by show _ = _; rw [unhide HE]; exact gr_bits l
      have HO : Hid (∀ y ∈ B, y ≤ 1) := by show ∀ y ∈ B, y ≤ 1; rw [unhide HE]; exact bits8_le l
      obtain ⟨G, hG⟩ : ∃ G : Nat, G = (B.length + 5) / 6 := ⟨_, rfl⟩
      have hGl : G ≤ 200000 := by omega
      clear HR HE
      go_wp2
      go_loopw [3] (fun v wr => ∃ (a' : Option Addr) (cap' : Nat) (B : List Nat), v = .slice a' B.length cap' ∧ Hid (gr B = spR l 0 0) ∧ Hid (∀ y ∈ B, y ≤ 1) ∧ G = (B.length + 5) / 6 ∧ OwnI wr w.heap.size a' cap' B ∧ Below w.heap.size w wr) (fun v _ => (6 - slnS v % 6) % 6)
      case atStart => exact ⟨a', cap', B, rfl, HG, HO, hG, ho, hb⟩
      case round =>
        clear HG HO hG ho hb hBl
        obtain ⟨a', cap', B, rfl, HG, HO, hG, ho, hb⟩ := hrel
        obtain ⟨M, hM⟩ : ∃ M : Nat, M = B.length % 6 := ⟨_, rfl⟩
        have hM1 : (B.length : Int).tmod 6 = (M : Int) := by rw [hM]; exact tmodn _ 6
        have hM2 : (B.length : Int) % 6 = (M : Int) := by rw [hM]; simp
        have hBl : B.length ≤ 1200000 := by omega
        have hbs := hb.size
        by_cases hM0 : M = 0
        · subst hM0
          have HM := hide hM
          clear hM
          go_wp2
          go_loopw [7, 8] (fun v i wr => ∃ (j : Nat) (a7 : Option Addr) (cap7 : Nat) (r : List UInt8), j ≤ B.length ∧ Hid (j % 6 = 0) ∧ i = .int .i64 (j : Int) ∧ v = .slice a7 r.length cap7 ∧ r.length ≤ j ∧ Hid (r ++ gr (B.drop j) = spR l 0 0) ∧ OwnB wr w.heap.size a7 cap7 r ∧ OwnI wr w.heap.size a' cap' B ∧ Below w.heap.size w wr) (fun _ i _ => B.length - (intOf i).toNat)
          case atStart => exact ⟨0, none, 0, [], Nat.zero_le _, rfl, rfl, rfl, Nat.le_refl _, HG, OwnB.nil _ _, ho, hb⟩
          case round =>
            clear ho hb HG hbs
            obtain ⟨j, a7, cap7, r, hj, Hj, rfl, rfl, hrj, HR, ho7, ho, hb⟩ := hrel
            by_cases hjl : j < B.length
            · have hj6 : j + 6 ≤ B.length := by have := unhide HM; have := unhide Hj; omega
              obtain ⟨g, rfl, hg0, hg1, hgc⟩ := ho.some (by omega)
              have HO' : ∀ y ∈ B.drop j, y ≤ 1 := fun y hy => unhide HO y (List.mem_of_mem_drop hy)
              have HV := hide (vk_lt (B.drop j) HO')
              clear HO'
              have Hgc := hide hgc
              clear hgc
              go_wp2
              go_loop [9, 43] (fun v i => ∃ k : Nat, k ≤ 6 ∧ i = .int .i64 (k : Int) ∧ v = .int .i64 ((vk (B.drop j) k : Nat) : Int)) (fun _ i => 6 - (intOf i).toNat)
              case atStart => exact ⟨0, Nat.zero_le _, rfl, rfl⟩
              case round =>
                obtain ⟨k, hk, rfl, rfl⟩ := hrel
                by_cases hk6 : k < 6
                · have hc := unhide Hgc (j + k) (by omega)
                  obtain ⟨J, hJ⟩ : ∃ J : Nat, J = j + k := ⟨_, rfl⟩
                  have hJi : (j : Int) + (k : Int) = (J : Int) := by omega
                  have hJl : J < B.length := by omega
                  have hJl2 : (J : Int) < (B.length : Int) := by omega
                  have HS : Hid (vk (B.drop j) (k + 1) = 2 * vk (B.drop j) k + B.getD J 0) := by
                    show _ = _
                    rw [vk, hJ]
                    simp [List.getElem?_drop]
                  rw [← hJ] at hc
                  have hv1 : vk (B.drop j) k < 64 := Nat.lt_of_lt_of_le (unhide HV k) (Nat.pow_le_pow_right (show 0 < 2 by decide) hk)
                  have hv2 : B.getD J 0 ≤ 1 := by
                    have : B.getD J 0 = B[J] := by simp [hJl]
                    rw [this]
                    exact unhide HO _ (List.getElem_mem _)
                  generalize B.getD J 0 = D at *
                  generalize vk (B.drop j) k = V at *
                  clear hJ
                  go_wp2
                  go_round
                  case rel => exact ⟨k + 1, by omega, by go_num, by rw [unhide HS]; go_num⟩
                  case measure => simp [intOf]; omega
                · obtain rfl : k = 6 := by omega
                  have HX : Hid (vk (B.drop j) 6 < 64) := unhide HV 6
                  have HR2 : Hid (r ++ [lt (vk (B.drop j) 6)] ++ gr (B.drop (j + 6)) = spR l 0 0) := by
                    show _ = _
                    rw [← unhide HR, gr_cons (B.drop j) (by simp; omega), List.drop_drop]
                    simp
                  clear HR HV Hgc
                  generalize vk (B.drop j) 6 = X at *
                  go_wp2_with fail
                  refine (letter_any X wr (unhide HX)).mono ?_
                  rintro e w4 ⟨rfl, rfl⟩
                  have hbs4 := hb.size
                  go_wp2_with (at_builtin; refine wp_app _ rfl _ _ rfl w.heap.size a7 cap7 r rfl (ho7.alloc _) (some ⟨w4.heap.size, 0, none⟩) 1 [lt X] 1 rfl rfl (row_lit _ _ _ rfl) (fun h => by cases h) ?c5 ?c6 ?_)
                  case c5 => simp; omega
                  case c6 => simp; omega
                  intro a2 cap2 r2 w5 hr2 ho5 hg5
                  have hb5 : Below w.heap.size w w5 := below_grown (hb.alloc hb.size _) hg5 (Nat.le_refl _) (fun k hk => (ho7.lt k hk).1)
                  have hoI : OwnI w5 w.heap.size (some ⟨g, 0, none⟩) cap' B := (ho.alloc _).kept hg5 (ho.ne ho7)
                  have HR5 : Hid (r2 ++ gr (B.drop (j + 6)) = spR l 0 0) := by
                    show _ = _
                    rw [unhide hr2, ← unhide HR2]
                  have hrl : r2.length ≤ j + 6 := by rw [unhide hr2]; simp; omega
                  have Hj6 : Hid ((j + 6) % 6 = 0) := by show _ = _; have := unhide Hj; omega
                  clear hr2 hg5 ho ho7 hb HR2
                  go_wp2
                  go_roundw
                  case rel => exact ⟨j + 6, a2, cap2, r2, by omega, Hj6, by go_num, rfl, hrl, HR5, ho5, hoI, hb5⟩
                  case measure => simp [intOf]; omega
            · obtain rfl : j = B.length := by omega
              have HE : Hid (r = spR l 0 0) := by
                have := unhide HR
                rw [List.drop_length, gr_nil, List.append_nil] at this
                exact this
              have hstr := run_str wr a7 r.length cap7 r ho7.toBs.row rfl
              clear HR
              go_wp2
              go_ret
              exact ⟨by have e := unhide HE; rw [← e]; rfl, hb⟩
        · have HG2 : Hid (gr (B ++ [0]) = spR l 0 0) := by show _ = _; rw [gr_snoc _ B (Nat.le_refl _) (by omega)]; exact unhide HG
          have HO2 : Hid (∀ y ∈ B ++ [0], y ≤ 1) := by
            intro y hy
            rcases List.mem_append.1 hy with h | h
            · exact unhide HO y h
            · simp at h; omega
          have HM := hide hM
          have hMne : ((M : Int) != 0) = true := by simp; omega
          clear hM HG HO
          go_wp2_with (at_builtin; refine wp_appi _ rfl _ _ rfl w.heap.size a' cap' B rfl (ho.alloc _) wr.heap.size 1 0 rfl (cell_liti _ _ _ rfl) ?c5 ?c6 ?_)
          case c5 => omega
          case c6 => simp; omega
          intro a2 cap2 B2 w5 hr2 ho5 hg5
          have hb5 : Below w.heap.size w w5 := below_grown (hb.alloc hb.size _) hg5 (Nat.le_refl _) (fun k hk => (ho.lt k hk).1)
          have hB2 := unhide hr2
          subst hB2
          clear hr2 hg5 ho hb
          go_wp2
          go_roundw
          case rel => exact ⟨a2, cap2, B ++ [0], rfl, HG2, HO2, by have := unhide HM; simp; omega, ho5, hb5⟩
          case measure => have := unhide HM; simp [slnS]; omega
#print axioms rspell_any
end Go.Proofs.YthhcaalafacjlaaDoor
end
section
set_option linter.unusedVariables false
namespace Go.Proofs.YthhcaalafacjlaaDoor
open Go.RowKit

def fnd (c : UInt8) (k : Nat) : Int := match numOf c with
  | none => -1
  | some m => if m < k then (m : Int) else -1
theorem fnd_zero (c : UInt8) : fnd c 0 = -1 := by unfold fnd; cases numOf c <;> simp
theorem fnd_eq (c : UInt8) (k : Nat) (hk : k < 64) (h : lt k = c) : fnd c (k + 1) = (k : Int) := by
  unfold fnd
  rw [← h, num_let k hk]
  simp
theorem fnd_ne (c : UInt8) (k : Nat) (h : lt k ≠ c) : fnd c (k + 1) = fnd c k := by
  unfold fnd
  cases e : numOf c with
  | none => rfl
  | some m =>
    have := (let_num c m e).2
    have hm : m ≠ k := by intro h2; subst h2; exact h this
    simp only
    by_cases h3 : m < k
    · rw [if_pos h3, if_pos (by omega)]
    · rw [if_neg h3, if_neg (by omega)]
theorem fnd_none (c : UInt8) (h : numOf c = none) : fnd c 64 = -1 := by unfold fnd; rw [h]
theorem fnd_some (c : UInt8) (m : Nat) (h : numOf c = some m) : fnd c 64 = (m : Int) := by
  unfold fnd
  rw [h]
  simp [(let_num c m h).1]
theorem fnd_range (c : UInt8) (k : Nat) : -1 ≤ fnd c k ∧ fnd c k < 64 := by
  unfold fnd
  cases e : numOf c with
  | none => simp
  | some m =>
    have := (let_num c m e).1
    simp only
    split <;> omega

set_option maxHeartbeats 4000000 in
theorem runspell_any (s : ByteArray) (w : World) (hl : s.data.toList.length ≤ 100000) :
    Calls Tryd.prog 32 #[.string s] w fun e w' => Below w.heap.size w w' ∧
      ((unR s.data.toList 0 0 = none ∧ e = .returned (.tuple #[.slice none 0 0, .bool false])) ∨
       ∃ a cap r, unR s.data.toList 0 0 = some r ∧ e = .returned (.tuple #[.slice a r.length cap, .bool true]) ∧ OwnB w' w.heap.size a cap r) := by
  obtain ⟨l, hls⟩ : ∃ l : List UInt8, l = s.data.toList := ⟨_, rfl⟩
  have hsz : s.size = l.length := by rw [hls, Array.length_toList]; rfl
  rw [← hls] at hl ⊢
  have hbl := bits6_length l
  have Hs := hide hls
  clear hls
  go_enter Tryd.func32, Tryd.ntmps32
  go_wp2
  go_loopw [4, 15] (fun v i wr => ∃ (k : Nat) (a' : Option Addr) (cap' : Nat) (B : List Nat), k ≤ l.length ∧ i = .int .i64 (k : Int) ∧ v = .slice a' B.length cap' ∧ Hid (B ++ bits6 (l.drop k) = bits6 l) ∧ OwnI wr w.heap.size a' cap' B ∧ Below w.heap.size w wr) (fun _ i _ => l.length - (intOf i).toNat)
  case atStart => exact ⟨0, none, 0, [], Nat.zero_le _, rfl, rfl, rfl, OwnI.nil _ _, Below.refl _ _⟩
  case round =>
    obtain ⟨k, a', cap', B, hk, rfl, rfl, HR, ho, hb⟩ := hrel
    have hBl : B.length ≤ 6 * l.length := by
      have := congrArg List.length (unhide HR)
      simp only [List.length_append] at this
      omega
    by_cases hlt : k < l.length
    · have hks : k < s.size := by omega
      have hks2 : (k : Int) < (s.size : Int) := by omega
      have hks3 : (k : Int) < (l.length : Int) := by omega
      have HD : Hid (l.drop k = s[k] :: l.drop (k + 1)) := by
        show _ = _
        rw [unhide Hs]
        exact str_drop s k hks
      have HK : Hid (l[k] = s[k]) := by
        show _ = _
        have := unhide HD
        rw [List.drop_eq_getElem_cons hlt] at this
        exact (List.cons.inj this).1
      have hxl := s[k].toNat_lt
      go_wp2
      go_loopw [6, 18] (fun v i wr => ∃ (j : Nat), j ≤ 64 ∧ i = .int .i64 (j : Int) ∧ v = .int .i64 (fnd s[k] j) ∧ OwnI wr w.heap.size a' cap' B ∧ Below w.heap.size w wr) (fun _ i _ => 64 - (intOf i).toNat)
      case atStart => exact ⟨0, Nat.zero_le _, rfl, by rw [fnd_zero], ho, hb⟩
      case round =>
        clear ho hb
        obtain ⟨j, hj, rfl, rfl, ho, hb⟩ := hrel
        by_cases hj64 : j < 64
        · have hj2 : (j : Int) < 64 := by omega
          by_cases hq : lt j = s[k]
          · have HF : Hid (fnd s[k] (j + 1) = (j : Int)) := fnd_eq _ j hj64 hq
            have hd : (((lt j).toNat : Int) == (s[k].toNat : Int)) = true := by rw [hq]; simp
            clear hq
            go_wp2_with fail
            go_quiet (first | (go_at_call 54; refine Calls.quiet_of_same (letter_any j _ hj64)))
            go_wp2
            go_roundw
            case rel => exact ⟨j + 1, by omega, by go_num, by rw [unhide HF], ho.below (below_drewN (Below.refl wr.heap.size wr) nq) (Nat.le_refl _), below_drewN hb nq⟩
            case measure => simp [intOf]; omega
          · have HF : Hid (fnd s[k] (j + 1) = fnd s[k] j) := fnd_ne _ j hq
            have hd : (((lt j).toNat : Int) == (s[k].toNat : Int)) = false := by
              simp only [beq_eq_false_iff_ne, ne_eq]
              intro h
              apply hq
              apply UInt8.toNat_inj.1
              omega
            clear hq
            go_wp2_with fail
            go_quiet (first | (go_at_call 54; refine Calls.quiet_of_same (letter_any j _ hj64)))
            go_wp2
            go_roundw
            case rel => exact ⟨j + 1, by omega, by go_num, by rw [unhide HF], ho.below (below_drewN (Below.refl wr.heap.size wr) nq) (Nat.le_refl _), below_drewN hb nq⟩
            case measure => simp [intOf]; omega
        · obtain rfl : j = 64 := by omega
          rw [show ((64 : Nat) : Int) = 64 from rfl]
          cases hnum : numOf s[k] with
          | none =>
            have HU : Hid (unR l 0 0 = none) := un_ref_bad l k hlt (by rw [unhide HK]; exact hnum)
            rw [fnd_none _ hnum]
            clear HD HR
            go_wp2
            go_ret2
            exact ⟨hb, .inl ⟨unhide HU, rfl⟩⟩
          | some X =>
            have hXl := (let_num _ X hnum).1
            have HR1 : Hid (B ++ bl X 6 ++ bits6 (l.drop (k + 1)) = bits6 l) := by
              have := unhide HR
              rw [unhide HD, bits6_cons] at this
              have e : nm s[k] = X := by rw [nm, hnum]; rfl
              show _ = _
              rw [← this, e, List.append_assoc]
            rw [fnd_some _ X hnum]
            have hXd : decide ((X : Int) < 0) = false := by simp
            clear HR HD HK hnum
            go_wp2
            go_loopw [4, 8] (fun v i wr => ∃ (n : Nat) (a' : Option Addr) (cap' : Nat) (B : List Nat), n ≤ 6 ∧ i = .int .i64 ((n : Int) - 1) ∧ v = .slice a' B.length cap' ∧ Hid (B ++ bl X n ++ bits6 (l.drop (k + 1)) = bits6 l) ∧ OwnI wr w.heap.size a' cap' B ∧ Below w.heap.size w wr) (fun _ i _ => (intOf i + 1).toNat)
            case atStart => exact ⟨6, a', cap', B, Nat.le_refl _, rfl, rfl, HR1, ho, hb⟩
            case round =>
              clear HR1 ho hb hBl
              obtain ⟨n, a', cap', B, hn, rfl, rfl, HR, ho, hb⟩ := hrel
              have hBl : B.length ≤ 6 * l.length := by
                have := congrArg List.length (unhide HR)
                simp only [List.length_append] at this
                omega
              rcases n with _ | n
              · have HR2 : Hid (B ++ bits6 (l.drop (k + 1)) = bits6 l) := by
                  show _ = _
                  have := unhide HR
                  simpa [bl] using this
                clear HR
                have h0 : ((0 : Nat) : Int) - 1 = -1 := by omega
                rw [h0]
                go_wp2
                go_roundw
                case rel => exact ⟨k + 1, a', cap', B, by omega, by go_num, rfl, HR2, ho, hb⟩
                case measure => simp [intOf]; omega
              · have hn1 : ((n + 1 : Nat) : Int) - 1 = (n : Int) := by omega
                rw [hn1]
                have hbs := hb.size
                obtain ⟨Y, hY⟩ : ∃ Y : Nat, Y = X / 2 ^ n := ⟨_, rfl⟩
                have hYi : (X : Int) / 2 ^ n = (Y : Int) := by rw [hY]; simp
                obtain ⟨M, hM⟩ : ∃ M : Nat, M = Y % 2 := ⟨_, rfl⟩
                have hM1 : (Y : Int).tmod 2 = (M : Int) := by rw [hM]; exact tmodn Y 2
                have hM2 : (Y : Int) % 2 = (M : Int) := by rw [hM]; simp
                have HR2 : Hid (B ++ [M] ++ bl X n ++ bits6 (l.drop (k + 1)) = bits6 l) := by
                  show _ = _
                  rw [← unhide HR, hM, hY]
                  simp [bl]
                clear HR hY hM
                go_wp2_with (at_builtin; refine wp_appi _ rfl _ _ rfl w.heap.size a' cap' B rfl (ho.alloc _) wr.heap.size 1 M rfl (cell_liti _ _ _ ?c1) ?c5 ?c6 ?_)
                case c1 => first | rfl | assumption | omega
                case c5 => omega
                case c6 => first | omega | (simp; omega)
                intro a2 cap2 B2 w5 hr2 ho5 hg5
                have hb5 : Below w.heap.size w w5 := below_grown (hb.alloc hb.size _) hg5 (Nat.le_refl _) (fun k hk => (ho.lt k hk).1)
                have HR5 : Hid (B2 ++ bl X n ++ bits6 (l.drop (k + 1)) = bits6 l) := by
                  show _ = _
                  rw [unhide hr2, ← unhide HR2]
                clear hr2 hg5 ho hb HR2
                go_wp2
                go_roundw
                case rel => exact ⟨n, a2, cap2, B2, by omega, by go_num, rfl, HR5, ho5, hb5⟩
                case measure => simp [intOf]
    · obtain rfl : k = l.length := by omega
      have HE : Hid (B = bits6 l) := by
        show _ = _
        have := unhide HR
        rw [List.drop_length] at this
        simpa [bits6] using this
      have HO : Hid (∀ y ∈ B, y ≤ 1) := by show ∀ y ∈ B, y ≤ 1; rw [unhide HE]; exact bits6_le l
      clear HR
      go_wp2
      go_loopw [9, 10] (fun v i wr => ∃ (j : Nat) (a7 : Option Addr) (cap7 : Nat) (r : List UInt8), j ≤ B.length ∧ i = .int .i64 (j : Int) ∧ v = .slice a7 r.length cap7 ∧ 8 * r.length ≤ j ∧ Hid (r ++ g8 (B.drop j) = g8 B) ∧ OwnB wr w.heap.size a7 cap7 r ∧ OwnI wr w.heap.size a' cap' B ∧ Below w.heap.size w wr) (fun _ i _ => B.length - (intOf i).toNat)
      case atStart => exact ⟨0, none, 0, [], Nat.zero_le _, rfl, rfl, Nat.le_refl _, rfl, OwnB.nil _ _, ho, hb⟩
      case round =>
        clear ho hb
        obtain ⟨j, a7, cap7, r, hj, rfl, rfl, hrj, HR, ho7, ho, hb⟩ := hrel
        by_cases hj6 : j + 8 ≤ B.length
        · obtain ⟨g, rfl, hg0, hg1, hgc⟩ := ho.some (by omega)
          have HO' : ∀ y ∈ B.drop j, y ≤ 1 := fun y hy => unhide HO y (List.mem_of_mem_drop hy)
          have HV := hide (vk_lt (B.drop j) HO')
          clear HO'
          have Hgc := hide hgc
          clear hgc
          go_wp2
          go_loop [11, 50] (fun v i => ∃ k : Nat, k ≤ 8 ∧ i = .int .i64 (k : Int) ∧ v = .int .i64 ((vk (B.drop j) k : Nat) : Int)) (fun _ i => 8 - (intOf i).toNat)
          case atStart => exact ⟨0, Nat.zero_le _, rfl, rfl⟩
          case round =>
            obtain ⟨k, hk, rfl, rfl⟩ := hrel
            by_cases hk6 : k < 8
            · have hc := unhide Hgc (j + k) (by omega)
              obtain ⟨J, hJ⟩ : ∃ J : Nat, J = j + k := ⟨_, rfl⟩
              have hJi : (j : Int) + (k : Int) = (J : Int) := by omega
              have hJl : J < B.length := by omega
              have hJl2 : (J : Int) < (B.length : Int) := by omega
              have HS : Hid (vk (B.drop j) (k + 1) = 2 * vk (B.drop j) k + B.getD J 0) := by
                show _ = _
                rw [vk, hJ]
                simp [List.getElem?_drop]
              rw [← hJ] at hc
              have hv1 : vk (B.drop j) k < 256 := Nat.lt_of_lt_of_le (unhide HV k) (Nat.pow_le_pow_right (show 0 < 2 by decide) hk)
              have hv2 : B.getD J 0 ≤ 1 := by
                have : B.getD J 0 = B[J] := by simp [hJl]
                rw [this]
                exact unhide HO _ (List.getElem_mem _)
              generalize B.getD J 0 = D at *
              generalize vk (B.drop j) k = V at *
              clear hJ
              go_wp2
              go_round
              case rel => exact ⟨k + 1, by omega, by go_num, by rw [unhide HS]; go_num⟩
              case measure => simp [intOf]; omega
            · obtain rfl : k = 8 := by omega
              have HX : Hid (vk (B.drop j) 8 < 256) := unhide HV 8
              have HR2 : Hid (r ++ [UInt8.ofNat (vk (B.drop j) 8)] ++ g8 (B.drop (j + 8)) = g8 B) := by
                show _ = _
                rw [← unhide HR, g8_go (B.drop j) (by simp; omega), List.drop_drop]
                simp
              clear HR HV Hgc
              generalize vk (B.drop j) 8 = X at *
              have hbs4 := hb.size
              have hX := unhide HX
              go_wp2_with (at_builtin; refine wp_app _ rfl _ _ rfl w.heap.size a7 cap7 r rfl (ho7.alloc _) (some ⟨wr.heap.size, 0, none⟩) 1 [UInt8.ofNat X] 1 rfl rfl (row_lit _ _ _ ?c1) (fun h => by cases h) ?c5 ?c6 ?_)
              case c1 => first | (rw [toNat_of X hX]; done) | (rw [toNat_of X hX]; omega) | (simp; omega) | omega
              case c5 => first | omega | (simp; omega)
              case c6 => first | omega | (simp; omega)
              intro a2 cap2 r2 w5 hr2 ho5 hg5
              have hb5 : Below w.heap.size w w5 := below_grown (hb.alloc hb.size _) hg5 (Nat.le_refl _) (fun k hk => (ho7.lt k hk).1)
              have hoI : OwnI w5 w.heap.size (some ⟨g, 0, none⟩) cap' B := (ho.alloc _).kept hg5 (ho.ne ho7)
              have HR5 : Hid (r2 ++ g8 (B.drop (j + 8)) = g8 B) := by
                show _ = _
                rw [unhide hr2, ← unhide HR2]
              have hrl : 8 * r2.length ≤ j + 8 := by rw [unhide hr2]; simp; omega
              clear hr2 hg5 ho ho7 hb HR2
              go_wp2
              go_roundw
              case rel => exact ⟨j + 8, a2, cap2, r2, by omega, by go_num, rfl, hrl, HR5, ho5, hoI, hb5⟩
              case measure => simp [intOf]; omega
        · have HE2 : Hid (r = g8 (bits6 l)) := by
            show _ = _
            have := unhide HR
            rw [g8_end (B.drop j) (by simp; omega), List.append_nil] at this
            rw [this, unhide HE]
          clear HR HE
          go_wp2_with fail
          refine (rspell_any a7 cap7 r wr ho7.toBs (by omega)).mono ?_
          rintro e w4 ⟨rfl, hb4⟩
          have hW4 := hb.trans (hb4.mono hb.size)
          have ho4 : OwnB w4 w.heap.size a7 cap7 r := ho7.below hb4 (Nat.le_refl _)
          clear hb hb4 ho ho7
          by_cases hq : spR r 0 0 = l
          · have hs' : str (spR r 0 0) = s := str_eq s _ (by rw [hq]; exact unhide Hs)
            have HU : Hid (unR l 0 0 = some r) := by
              show _ = _
              rw [unhide HE2] at hq ⊢
              exact un_ref_some l hq
            rw [hs']
            clear HE2 hq
            go_wp2
            go_ret2
            exact ⟨hW4, .inr ⟨a7, cap7, r, unhide HU, rfl, ho4⟩⟩
          · have hs' : str (spR r 0 0) ≠ s := by
              intro h
              apply hq
              have := congrArg (fun s : ByteArray => s.data.toList) h
              rw [unhide Hs]
              exact this
            have HU : Hid (unR l 0 0 = none) := by
              show _ = _
              rw [unhide HE2] at hq
              exact un_ref_none l hq
            have hs2 : ((str (spR r 0 0)).toList == s.toList) = false := by
              have e : s = str l := (str_eq s l (unhide Hs)).symm
              rw [e, toList_str, toList_str]
              simpa using hq
            clear HE2 hq hs'
            generalize str (spR r 0 0) = t at *
            go_wp2
            go_ret2
            exact ⟨hW4, .inl ⟨unhide HU, rfl⟩⟩
#print axioms runspell_any
end Go.Proofs.YthhcaalafacjlaaDoor
end
