/-
  strings.IndexRune, IndexAny, ContainsAny of a CR and a LF, whatever the text (as BerY has it of blanks).
-/
import Derived.Test.YtonaekkenggmbaaGreatDoorPkHadsai
import Derived.Deep.QuietTactic
import Derived.BigQuiet
import Derived.Test.YtonaekkenggmbaaGreatDoorPkHadsaa
import Derived.Laws.RangeAny
import Derived.Laws.Runes
import Derived.WalkMore
import Derived.Lib.OthersKept
section
set_option linter.unusedVariables false
set_option maxRecDepth 1000000
namespace Go.Proofs.YtonaekkenggmbaaGreatDoor
open Go.RowKit

/-- Has a text a CR or a LF? -/
def bad (t : List UInt8) : Bool := t.any (fun c => c == 13 || c == 10)
abbrev c329 : ByteArray := ⟨#[13, 10]⟩

set_option maxHeartbeats 1000000 in
theorem validRune (r : Int) (w : World) (h0 : 128 ≤ r) :
    Calls Tryz.prog 193 #[.int .i32 r] w fun e w' => e = .returned (.bool (Utf8.valid r)) ∧ w' = w := by
  have d0 : decide ((0 : Int) ≤ r) = true := decide_eq_true (by omega)
  by_cases h1 : r < 55296
  · have d1 : decide (r < 55296) = true := decide_eq_true h1
    have HV : Hid (Utf8.valid r = true) := by show _ = _; unfold Utf8.valid; simp; omega
    clear h1
    go_enter Tryz.func193, Tryz.ntmps193
    go_wp2
    go_ret
    exact ⟨by rw [unhide HV]; rfl, rfl⟩
  · have d1 : decide (r < 55296) = false := decide_eq_false h1
    by_cases h2 : 57343 < r
    · have d2 : decide ((57343 : Int) < r) = true := decide_eq_true h2
      by_cases h3 : r ≤ 1114111
      · have d3 : decide (r ≤ 1114111) = true := decide_eq_true h3
        have HV : Hid (Utf8.valid r = true) := by show _ = _; unfold Utf8.valid; simp; omega
        clear h1 h2 h3
        go_enter Tryz.func193, Tryz.ntmps193
        go_wp2
        go_ret
        exact ⟨by rw [unhide HV]; rfl, rfl⟩
      · have d3 : decide (r ≤ 1114111) = false := decide_eq_false h3
        have HV : Hid (Utf8.valid r = false) := by show _ = _; unfold Utf8.valid; simp; omega
        clear h1 h2 h3
        go_enter Tryz.func193, Tryz.ntmps193
        go_wp2
        go_ret
        exact ⟨by rw [unhide HV]; rfl, rfl⟩
    · have d2 : decide ((57343 : Int) < r) = false := decide_eq_false h2
      have HV : Hid (Utf8.valid r = false) := by show _ = _; unfold Utf8.valid; simp; omega
      clear h1 h2
      go_enter Tryz.func193, Tryz.ntmps193
      go_wp2
      go_ret
      exact ⟨by rw [unhide HV]; rfl, rfl⟩

theorem below_iter (w : World) (s : ByteArray) (p : Nat) : Below w.heap.size w (w.iter s p) := (Below.refl _ _).alloc (Nat.le_refl _) _

set_option maxHeartbeats 4000000 in
/-- strings.IndexRune of a character beyond ASCII among the two. -/
theorem irune_high (r : Int) (w : World) (h0 : 128 ≤ r) (h1 : r ≤ 2147483647) :
    Calls Tryz.prog 179 #[.string c329, .int .i32 r] w fun e w' => e = .returned (.int .i64 (-1)) ∧ Below w.heap.size w w' := by
  have d0 : decide ((0 : Int) ≤ r) = true := decide_eq_true (by omega)
  have d1 : decide (r < 128) = false := decide_eq_false (by omega)
  by_cases he : r = 65533
  · subst he
    have hn0 := fun ty => run_next_ascii (P := Tryz.prog) w c329 0 ty (by decide) (by decide)
    have hn1 := fun ty => run_next_ascii (P := Tryz.prog) w c329 1 ty (by decide) (by decide)
    have hn2 := fun ty => run_next_end (P := Tryz.prog) w c329 2 ty (by decide)
    have HB := hide (below_iter w c329 2)
    go_enter Tryz.func179, Tryz.ntmps179
    go_wp2
    refine wp_loop_rounds 3 ?_
    rw [rounds_succ]
    go_wp2
    rw [rounds_succ]
    go_wp2
    rw [rounds_succ]
    go_wp2
    go_ret
    exact ⟨rfl, unhide HB⟩
  · have hne : (r == 65533) = false := by simpa using he
    clear he
    cases hv : Utf8.valid r with
    | false =>
      have HV := hide (validRune r w h0)
      rw [hv] at HV
      go_enter Tryz.func179, Tryz.ntmps179
      go_wp2_with (go_at_call 193; refine (unhide HV).mono ?_; rintro e w2 ⟨rfl, hw⟩; have hw := hw.symm; subst hw)
      go_ret
      exact ⟨rfl, Below.refl _ _⟩
    | true =>
      have HV := hide (validRune r w h0)
      rw [hv] at HV
      obtain ⟨s2, s4, sl⟩ := encode_facts r hv h0
      obtain ⟨E, hE⟩ : ∃ E, Utf8.encode r = E := ⟨_, rfl⟩
      rw [hE] at s2 s4
      have hlast : 128 ≤ (E[E.size - 1]'(by omega)).toNat := by
        have := sl (by rw [hE]; omega)
        simp only [hE] at this
        exact this
      have hcv : ∀ w, (convert 21 9 (.int .i32 r)).run Tryz.prog w = .ok (.string E) w := fun w => by
        rw [run_convert_int_string w _ _ .i32 r (by rw [Tryz.underlying21]; rfl) Tryz.underlying9, hE]
      clear sl hv hE
      by_cases hs2 : E.size = 2
      · obtain ⟨x, hx⟩ : ∃ x, E[1]'(by omega) = x := ⟨_, rfl⟩
        have hx128 : 128 ≤ x.toNat := by
          rw [← hx]
          have e : E.size - 1 = 1 := by omega
          simp only [e] at hlast
          exact hlast
        have hix : ∀ w, (Instr.index 9 (.string E) (.int .i64 1)).run Tryz.prog w = .ok (.int .u8 (x.toNat : Int)) w := fun w => by
          have hEs : E = str E.data.toList := by cases E; simp [str]
          rw [hEs]
          have hgd : E.data.toList.getD 1 0 = x := by rw [List.getD_eq_getElem?_getD, Lib.data_getElem? E 1 (by omega), hx]; rfl
          have := run_ixs w E.data.toList 1 (by have : E.data.toList.length = E.size := Array.length_toList
                                                omega)
          rw [hgd] at this
          exact this
        have hi9 : ∀ w, (Instr.index 9 (.string c329) (.int .i64 1)).run Tryz.prog w = .ok (.int .u8 10) w := fun w => run_ixs w [13, 10] 1 (by decide)
        have hm1 : Lib.indexByte (c329.extract 2 2).data.toList x = -1 := rfl
        have hm2 : Lib.indexByte (c329.extract 2 c329.size).data.toList x = -1 := rfl
        have hn9 : ((10 : Int) != (x.toNat : Int)) = true := by simp; omega
        have hsz : (E.size : Int) = 2 := by omega
        have HI := hide (fun s w => sIdx_any s x w)
        have hx256 := x.toNat_lt
        clear hlast s2 s4 hs2 hx
        go_enter Tryz.func179, Tryz.ntmps179
        go_wp2_with (go_at_call 193; refine (unhide HV).mono ?_; rintro e w2 ⟨rfl, hw⟩; have hw := hw.symm; subst hw)
        go_step3
        go_wp2
        refine wp_loop_rounds 1 ?_
        rw [rounds_succ]
        go_wp2
        go_step3
        go_wp2
        go_quiet (fail)
        have HBy := hide (below_drewN (Below.refl w.heap.size w) nq)
        generalize w.drewN nq = y at *
        go_wp2
        go_quiet ((go_at_call 127; exact Calls.quiet_of_same (unhide HI _ _)))
        go_wp2
        simp only [Exit.noGoto, Exit.inBlock, Exit.then]
        go_ret
        exact ⟨rfl, below_drewN (unhide HBy) nq⟩
      · have hs3 : 3 ≤ E.size := by omega
        obtain ⟨n, hn⟩ : ∃ n : Nat, n = E.size - 1 := ⟨_, rfl⟩
        have hsz : (E.size : Int) - 1 = (n : Int) := by omega
        have hn2 : ¬ (n : Int) < 2 := by omega
        clear hlast s2
        go_enter Tryz.func179, Tryz.ntmps179
        go_wp2_with (go_at_call 193; refine (unhide HV).mono ?_; rintro e w2 ⟨rfl, hw⟩; have hw := hw.symm; subst hw)
        go_step3
        go_wp2
        refine wp_loop_rounds 1 ?_
        rw [rounds_succ]
        go_wp2
        rw [Exit.noGoto_ret]
        go_ret
        exact ⟨rfl, Below.refl _ _⟩
#print axioms irune_high

/-! ### IndexAny -/
theorem dec_cont (s : ByteArray) (i : Nat) (h : i < s.size) (ha : 128 ≤ (s[i]'h).toNat) : i + (Utf8.decode s i).2 ≤ s.size ∧ ∀ k, k < (Utf8.decode s i).2 → 128 ≤ (s.get! (i + k)).toNat := by
  have hn : ¬ (s[i]'h).toNat < 128 := by omega
  have h0 : 128 ≤ (s.get! (i + 0)).toNat := by rw [get_at s i h]; exact ha
  simp only [Utf8.decode, get_at s i h, hn, if_false]
  repeat' split
  all_goals simp_all
  all_goals (first
    | (refine ⟨by omega, fun k hk => ?_⟩; match k, hk with
        | 0, _ => first | exact h0 | simpa using h0
        | 1, _ => omega
        | 2, _ => omega
        | 3, _ => omega)
    | (refine ⟨by omega, fun k hk => ?_⟩; obtain rfl : k = 0 := by omega; first | exact h0 | simpa using h0)
    | omega)

theorem stg (l : List UInt8) (j : Nat) : (str l).get! j = l.getD j 0 := by
  unfold str ByteArray.get!
  by_cases h : j < l.length
  · simp [h]
  · simp [h]
    rfl
theorem stx (l : List UInt8) (i : Nat) (h : i < (str l).size) : (str l)[i]'h = l.getD i 0 := by rw [← get_at (str l) i h, Nat.add_zero, stg]
theorem bad_false (l : List UInt8) (h : ∀ j, j < l.length → l.getD j 0 ≠ 13 ∧ l.getD j 0 ≠ 10) : bad l = false := by
  unfold bad
  rw [List.any_eq_false]
  intro c hc
  obtain ⟨j, hj, rfl⟩ := List.getElem_of_mem hc
  have := h j hj
  rw [List.getD_eq_getElem?_getD, List.getElem?_eq_getElem hj] at this
  simpa using this
theorem bad_true (l : List UInt8) (j : Nat) (hj : j < l.length) (h : l.getD j 0 = 13 ∨ l.getD j 0 = 10) : bad l = true := by
  unfold bad
  rw [List.any_eq_true]
  rw [List.getD_eq_getElem?_getD, List.getElem?_eq_getElem hj] at h
  exact ⟨l[j], List.getElem_mem hj, by simpa using h⟩
theorem any_idx : ∀ l : List UInt8, decide (0 ≤ Lib.indexAny l [13, 10]) = bad l
  | [] => rfl
  | b :: l => by
    have ih := any_idx l
    have hge := Lib.indexAny_ge [13, 10] l
    unfold Lib.indexAny
    have hb : bad (b :: l) = ((b == 13 || b == 10) || bad l) := by simp [bad]
    rw [hb, ← ih]
    by_cases h : (b == 13 || b == 10) = true
    · have hc : ([13, 10] : List UInt8).contains b = true := by simpa using h
      rw [h, if_pos hc]; rfl
    · have hc : ¬ ([13, 10] : List UInt8).contains b = true := by simpa using h
      have h' : (b == 13 || b == 10) = false := by simpa using h
      rw [h', if_neg hc]
      by_cases h1 : Lib.indexAny l [13, 10] = -1
      · rw [h1]; rfl
      · rw [if_neg (by simpa using h1)]
        rw [Bool.false_or]
        exact decide_eq_decide.2 (by omega)
theorem idx2 (x : UInt8) : decide ((0 : Int) ≤ Lib.indexByte [13, 10] x) = (x == 13 || x == 10) := by
  have : ∀ k : Fin 256, decide ((0 : Int) ≤ Lib.indexByte [13, 10] (UInt8.ofNat k.val)) = (UInt8.ofNat k.val == 13 || UInt8.ofNat k.val == 10) := by decide +kernel
  simpa using this ⟨x.toNat, x.toNat_lt⟩
theorem irune_low (x : UInt8) (hx : x.toNat < 128) (w : World) :
    Calls Tryz.prog 179 #[.string c329, .int .i32 (x.toNat : Int)] w fun e w' => e = .returned (.int .i64 (Lib.indexByte [13, 10] x)) ∧ w' = w := by
  have := Any.strings_IndexRune_ascii (ρ := Tryz.lays153_ren) { Tryz.lays153 with } c329 (x.toNat : Int) w (by omega) (by omega)
  refine Calls.mono this ?_
  rintro e w' ⟨rfl, rfl⟩
  exact ⟨by simp, rfl⟩
theorem below_iterAt {w wr : World} (k : Nat) (s : ByteArray) (p : Nat) (hb : Below w.heap.size w wr) (hk : w.heap.size ≤ k) : Below w.heap.size w (wr.iterAt k s p) := by
  refine ⟨hb.os, hb.tape, hb.output, by simp [World.iterAt]; exact hb.size, fun j hj => ?_⟩
  have : (wr.iterAt k s p).heap[j]? = wr.heap[j]? := by
    show (wr.heap.setIfInBounds k _)[j]? = _
    rw [Array.getElem?_setIfInBounds_ne (by omega)]
  rw [this]
  exact hb.block j hj

set_option maxHeartbeats 8000000 in
theorem iany_short (l : List UInt8) (w : World) (h8 : l.length ≤ 8) :
    Calls Tryz.prog 164 #[.string (str l), .string c329] w fun e w' => (∃ z : Int, e = .returned (.int .i64 z) ∧ Hid (decide (0 ≤ z) = bad l)) ∧ Below w.heap.size w w' := by
  have hsz : (str l).size = l.length := str_size l
  have h8z : decide ((8 : Int) < (l.length : Int)) = false := decide_eq_false (by omega)
  have HU : Hid (∀ w, Calls Tryz.prog 180 #[.int .i64 (l.length : Int)] w fun e w' => e = .returned (.bool false) ∧ w' = w) := fun w => by
    have := Any.strings_shouldUseASCIISet (ρ := Tryz.lays153_ren) { Tryz.lays153 with } (l.length : Int) w
    rw [h8z] at this
    exact this
  clear h8z
  go_enter Tryz.func164, Tryz.ntmps164
  go_wp2_with (go_at_call 180; refine (unhide HU _).mono ?_; rintro e w2 ⟨rfl, hw⟩; have hw := hw.symm; subst hw)
  go_loopg [9, 10] l.length (fun g _ _ wx => ∃ i : Nat, i + g = l.length ∧ Hid (wx.heap[w.heap.size]? = some (.stringIter (str l) i)) ∧ Hid (∀ j, j < i → l.getD j 0 ≠ 13 ∧ l.getD j 0 ≠ 10) ∧ Hid (Below w.heap.size w wx))
  case atStart => exact ⟨0, by omega, heap_alloc_new w _, (fun j hj => by omega), below_iter w _ _⟩
  case round =>
    obtain ⟨i, hig, hk, hno, hb⟩ := hrel
    by_cases hi : i < l.length
    · have hnx := fun ty => Lib.run_next_any_at (P := Tryz.prog) wr w.heap.size (str l) i ty (unhide hk) (by omega)
      obtain ⟨x, hx⟩ : ∃ x, l.getD i 0 = x := ⟨_, rfl⟩
      have hxs : (str l)[i]'(by omega) = x := by rw [stx, hx]
      by_cases hx128 : x.toNat < 128
      · have hd : Utf8.decode (str l) i = (x.toNat, 1) := by rw [decode_ascii (str l) i (by omega) (by rw [hxs]; exact hx128), hxs]
        rw [hd] at hnx
        have HK2 := hide (Lib.iterAt_heap wr w.heap.size (str l) i (i + 1) (unhide hk))
        have HB2 := hide (below_iterAt w.heap.size (str l) (i + 1) (unhide hb) (Nat.le_refl _))
        dsimp only at hnx
        generalize wr.iterAt w.heap.size (str l) (i + 1) = W2 at *
        have HI := hide (irune_low x hx128 W2)
        obtain ⟨z, hz⟩ : ∃ z, Lib.indexByte [13, 10] x = z := ⟨_, rfl⟩
        have hz2 := idx2 x
        rw [hz] at HI hz2
        cases hq : (x == 13 || x == 10) with
        | true =>
          rw [hq] at hz2
          have HBT : Hid (decide ((0 : Int) ≤ (i : Int)) = bad l) := by
            show _ = _
            rw [bad_true l i hi (by rw [hx]; simpa using hq)]
            exact decide_eq_true (by omega)
          clear hk hno hb hx hxs hd hz hq
          go_wp2_with (go_at_call 179; refine (unhide HI).mono ?_; rintro e w3 ⟨rfl, hw3⟩; have hw3 := hw3.symm; subst hw3)
          go_ret
          exact ⟨⟨_, rfl, HBT⟩, unhide HB2⟩
        | false =>
          rw [hq] at hz2
          have HN : Hid (∀ j, j < i + 1 → l.getD j 0 ≠ 13 ∧ l.getD j 0 ≠ 10) := by
            intro j hj
            by_cases e : j = i
            · subst e; rw [hx]; simpa using hq
            · exact unhide hno j (by omega)
          clear hk hno hb hx hxs hd hz hq
          go_wp2_with (go_at_call 179; refine (unhide HI).mono ?_; rintro e w3 ⟨rfl, hw3⟩; have hw3 := hw3.symm; subst hw3)
          go_roundg (l.length - (i + 1))
          case measure => omega
          case rel => exact ⟨i + 1, by omega, HK2, HN, HB2⟩
      · obtain ⟨hr1, hr2⟩ := decode_high (str l) i (by omega) (by rw [hxs]; omega)
        obtain ⟨hc1, hc2⟩ := dec_cont (str l) i (by omega) (by rw [hxs]; omega)
        have hr3 := decode_le (str l) i
        obtain ⟨R, hR⟩ : ∃ R, (Utf8.decode (str l) i).1 = R := ⟨_, rfl⟩
        obtain ⟨K, hK⟩ : ∃ K, (Utf8.decode (str l) i).2 = K := ⟨_, rfl⟩
        rw [hR] at hr1 hr3
        rw [hK] at hr2 hc1 hc2
        rw [hR, hK] at hnx
        have HK2 := hide (Lib.iterAt_heap wr w.heap.size (str l) i (i + K) (unhide hk))
        have HB2 := hide (below_iterAt w.heap.size (str l) (i + K) (unhide hb) (Nat.le_refl _))
        generalize wr.iterAt w.heap.size (str l) (i + K) = W2 at *
        have HI := hide (irune_high (R : Int) W2 (by omega) (by omega))
        have HN : Hid (∀ j, j < i + K → l.getD j 0 ≠ 13 ∧ l.getD j 0 ≠ 10) := by
          intro j hj
          by_cases e : j < i
          · exact unhide hno j e
          · have := hc2 (j - i) (by omega)
            rw [stg, show i + (j - i) = j by omega] at this
            constructor
            · intro e2; rw [e2] at this; revert this; decide
            · intro e2; rw [e2] at this; revert this; decide
        clear hk hno hb hx hxs hR hK hc2 hx128
        go_wp2_with (go_at_call 179; refine (unhide HI).mono ?_; rintro e w3 ⟨rfl, hb3⟩)
        have HK3 := hide ((hb3.block _ (Array.getElem?_eq_some_iff.1 (unhide HK2)).1).trans (unhide HK2))
        have HB3 := hide ((unhide HB2).trans (hb3.mono (unhide HB2).size))
        go_roundg (l.length - (i + K))
        case measure => omega
        case rel => exact ⟨i + K, by omega, HK3, HN, HB3⟩
    · obtain rfl : i = l.length := by omega
      have hnx := fun ty => Lib.run_next_end_at (P := Tryz.prog) wr w.heap.size (str l) l.length ty (unhide hk) (by omega)
      have HBF : Hid (decide ((0 : Int) ≤ -1) = bad l) := by show _ = _; rw [bad_false l (unhide hno)]; rfl
      go_wp2
      go_ret
      exact ⟨⟨_, rfl, HBF⟩, unhide hb⟩
#print axioms iany_short

theorem info116 : (Tryz.prog.info? (Tryz.lays153_ren.t 116)).map (fun i => (i.zero, i.size)) = some (some (.agg (Array.replicate 256 (.bool false))), 256) := by kernel_rfl
theorem iany_any (l : List UInt8) (w : World) (hl : l.length ≤ 1000000) :
    Calls Tryz.prog 164 #[.string (str l), .string c329] w fun e w' => (∃ z : Int, e = .returned (.int .i64 z) ∧ Hid (decide (0 ≤ z) = bad l)) ∧ Below w.heap.size w w' := by
  by_cases h8 : l.length ≤ 8
  · exact iany_short l w h8
  · have hsz : (str l).size = l.length := str_size l
    have hz := zero_of_info info116
    have := Any.strings_IndexAny_long (ρ := Tryz.lays153_ren) { Tryz.lays153 with } hz.1 hz.2 (str l) c329 w (by decide) (by omega) (by omega) (by decide) (by
      intro j b hj
      match j, hj with
      | 0, hj => simp at hj; subst hj; decide
      | 1, hj => simp at hj; subst hj; decide
      | j + 2, hj => simp at hj)
    refine Calls.mono this ?_
    rintro e w' ⟨rfl, rfl⟩
    refine ⟨⟨_, rfl, any_idx l⟩, ?_⟩
    exact ((Below.refl _ _).alloc (Nat.le_refl _) _).alloc (by simp) _
set_option maxHeartbeats 1000000 in
theorem cany_any (l : List UInt8) (w : World) (hl : l.length ≤ 1000000) :
    Calls Tryz.prog 141 #[.string (str l), .string c329] w fun e w' => e = .returned (.bool (bad l)) ∧ Below w.heap.size w w' := by
  have HI := hide (iany_any l w hl)
  go_enter Tryz.func141, Tryz.ntmps141
  go_wp2_with (go_at_call 164; refine (unhide HI).mono ?_; rintro e w2 ⟨⟨z, rfl, hz⟩, hb⟩)
  go_ret
  exact ⟨by rw [← unhide hz]; rfl, hb⟩
#print axioms cany_any
end Go.Proofs.YtonaekkenggmbaaGreatDoor
end
