/-
  THE LIBRARY's bytes.Clone, slices.Clone, bytes.Equal, told of lists of bytes; the text of a list of bytes.; THE WALK of wire's fromHighest.; THE WALKS of the document's numbers: blotterref01.Form, Number, Text give the same forms.
-/
import Derived.Test.YthhcaalafacjlaaDoorPkAadsad
import Derived.WalkSpells
import Derived.WalkLawsBesides
import Derived.Lib.SliceRun
import Derived.Test.YthhcaalafacjlaaDoorPkAadsal
import Derived.Test.YthhcaalafacjlaaDoorPkAadsak
section
set_option linter.unusedVariables false
namespace Go.Proofs.YthhcaalafacjlaaDoor
open Go.RowKit

/-- The text that a list of bytes is. -/
def str (l : List UInt8) : ByteArray := ⟨l.toArray⟩
theorem str_data (l : List UInt8) : (str l).data.toList = l := rfl
theorem str_size (l : List UInt8) : (str l).size = l.length := by simp [str, ByteArray.size]

theorem run_str (w : World) (a : Option Addr) (n cap : Nat) (l : List UInt8) (hr : Row w a l) (hn : n = l.length) :
    (convert 40 9 (.slice a n cap)).run Tryd.prog w = .ok (.string (str l)) w := by
  subst hn
  by_cases h : l = []
  · subst h
    cases a with
    | none => exact run_convert_bytes_nil w 40 5 Tryd.underlying40 Tryd.underlying5 0 cap 9 Tryd.underlying9
    | some ad =>
      show (convert 40 9 (.slice (some ad) 0 cap)).run Tryd.prog w = _
      rw [run_convert_bytes_string w 40 9 5 _ 0 cap Tryd.underlying40 Tryd.underlying5 Tryd.underlying9, run_bytesToString w ad 0 cap [] (by
        have := run_loadCells_list (P := Tryd.prog) w ad [] (fun j v hj => by simp at hj)
        simpa using this)]
      rfl
  · obtain ⟨b, off, rfl, hc⟩ := hr h
    have e := run_convert_bytes_arg (P := Tryd.prog) w 40 5 Tryd.underlying40 Tryd.underlying5 b off l.length cap (l.map fun c => (c.toNat : Int)) (by simp) (by
      intro i hi
      rw [hc i hi]
      simp [hi]) 9 Tryd.underlying9
    rw [e]
    have e2 : strOfNums (l.map fun c => (c.toNat : Int)) = str l := by
      have h : (l.map fun c => (c.toNat : Int)).map (fun n : Int => UInt8.ofNat n.toNat) = l := by
        rw [List.map_map]
        have : ((fun n : Int => UInt8.ofNat n.toNat) ∘ fun c : UInt8 => (c.toNat : Int)) = id := by
          funext c
          simp
        rw [this, List.map_id]
      unfold strOfNums str
      rw [h]
    rw [e2]

theorem toList_str (l : List UInt8) : (str l).toList = l := by
  rw [ByteArray.toList_eq]
  rfl

set_option maxHeartbeats 400000 in
theorem equal_any (a1 : Option Addr) (n1 cap1 : Nat) (l1 : List UInt8) (a2 : Option Addr) (n2 cap2 : Nat) (l2 : List UInt8) (w : World) (h1 : Row w a1 l1) (h2 : Row w a2 l2) (e1 : n1 = l1.length) (e2 : n2 = l2.length) :
    Calls Tryd.prog 29 #[.slice a1 n1 cap1, .slice a2 n2 cap2] w fun e w' => e = .returned (.bool (l1 == l2)) ∧ w' = w := by
  have k1 := run_str w a1 n1 cap1 l1 h1 e1
  have k2 := run_str w a2 n2 cap2 l2 h2 e2
  have t1 := toList_str l1
  have t2 := toList_str l2
  clear e1 e2
  go_enter Tryd.func29, Tryd.ntmps29
  go_wp2
  go_ret
  exact ⟨rfl, rfl⟩

theorem own_empty (w : World) (base : Nat) (hb : base ≤ w.heap.size) : OwnB (w.alloc (.cells #[] 5)) base (some ⟨w.heap.size, 0, none⟩) 0 [] :=
  World.ownsRow_made w #[] 0 hb (by unfold maxLen; omega) rfl

set_option maxHeartbeats 400000 in
theorem sclone_any (a : Option Addr) (n cap : Nat) (l : List UInt8) (w : World) (hr : Bs w a cap l) (hn : n = l.length) (hl : l.length ≤ 100000000) :
    Calls Tryd.prog 19 #[.slice a n cap] w fun e w' => ∃ a' cap' r, e = .returned (.slice a' r.length cap') ∧ Hid (r = l) ∧ OwnB w' w.heap.size a' cap' r ∧ Below w.heap.size w w' := by
  have hq := fun (wx : World) (a : Option Addr) (n c : Nat) => Lib.run_eql_slice_nil (P := Tryd.prog) wx 40 5 a n c 0 0 Tryd.underlying40
  cases a with
  | none =>
    have hl0 : l = [] := by
      apply Classical.byContradiction
      intro hne
      obtain ⟨b, off, hh, _⟩ := hr.row hne
      cases hh
    subst hl0
    go_enter Tryd.func19, Tryd.ntmps19
    go_wp2
    go_ret
    exact ⟨none, 0, [], rfl, rfl, OwnB.nil _ _, Below.refl _ _⟩
  | some ad =>
    subst hn
    go_enter Tryd.func19, Tryd.ntmps19
    go_wp2_with (at_builtin; refine wp_app _ rfl _ _ rfl w.heap.size (some ⟨w.heap.size, 0, none⟩) 0 [] rfl (own_empty w _ (Nat.le_refl _)) (some ad) cap l _ rfl rfl (hr.row.alloc _) (fun h => by cases h) ?c3 ?c4 ?_)
    case c3 => simp; omega
    case c4 => simp
    intro a2 cap2 r2 w2 hr2 ho2 hg2
    have hb2 : Below w.heap.size w w2 := below_grown (a := some ⟨w.heap.size, 0, none⟩) ((Below.refl _ _).alloc (Nat.le_refl _) _) hg2 (Nat.le_refl _) (fun k hk => by simp [blk] at hk; omega)
    have HR : Hid (r2 = l) := by
      show _ = _
      rw [hr2.out]
    clear hr2 hg2
    go_wp2
    go_ret
    exact ⟨a2, cap2, r2, rfl, HR, ho2, hb2⟩

set_option maxHeartbeats 400000 in
theorem bclone_any (a : Option Addr) (n cap : Nat) (l : List UInt8) (w : World) (hr : Bs w a cap l) (hn : n = l.length) (hl : l.length ≤ 100000000) :
    Calls Tryd.prog 65 #[.slice a n cap] w fun e w' => ∃ a' cap' r, e = .returned (.slice a' r.length cap') ∧ Hid (r = l) ∧ OwnB w' w.heap.size a' cap' r ∧ Below w.heap.size w w' := by
  have hq := fun (wx : World) (a : Option Addr) (n c : Nat) => Lib.run_eql_slice_nil (P := Tryd.prog) wx 40 5 a n c 0 0 Tryd.underlying40
  cases a with
  | none =>
    have hl0 : l = [] := by
      apply Classical.byContradiction
      intro hne
      obtain ⟨b, off, hh, _⟩ := hr.row hne
      cases hh
    subst hl0
    go_enter Tryd.func65, Tryd.ntmps65
    go_wp2
    go_ret
    exact ⟨none, 0, [], rfl, rfl, OwnB.nil _ _, Below.refl _ _⟩
  | some ad =>
    subst hn
    go_enter Tryd.func65, Tryd.ntmps65
    go_wp2_with (at_builtin; refine wp_app _ rfl _ _ rfl w.heap.size (some ⟨w.heap.size, 0, none⟩) 0 [] rfl (own_empty w _ (Nat.le_refl _)) (some ad) cap l _ rfl rfl (hr.row.alloc _) (fun h => by cases h) ?c3 ?c4 ?_)
    case c3 => simp; omega
    case c4 => simp
    intro a2 cap2 r2 w2 hr2 ho2 hg2
    have hb2 : Below w.heap.size w w2 := below_grown (a := some ⟨w.heap.size, 0, none⟩) ((Below.refl _ _).alloc (Nat.le_refl _) _) hg2 (Nat.le_refl _) (fun k hk => by simp [blk] at hk; omega)
    have HR : Hid (r2 = l) := by
      show _ = _
      rw [hr2.out]
    clear hr2 hg2
    go_wp2
    go_ret
    exact ⟨a2, cap2, r2, rfl, HR, ho2, hb2⟩

#print axioms own_empty
end Go.Proofs.YthhcaalafacjlaaDoor
end
section
set_option linter.unusedVariables false
namespace Go.Proofs.YthhcaalafacjlaaDoor
open Go.RowKit

theorem shl_or (N : Nat) (c : UInt8) (h : N < 72057594037927936) : bits .or .u64 ((N : Int) * 256) (c.toNat : Int) = ((N * 256 + c.toNat : Nat) : Int) := by
  have hc : c.toNat < 256 := c.toNat_lt
  have e := u64_or_nat (N * 256) c.toNat (by omega) (by omega)
  have e2 : N * 256 ||| c.toNat = N * 256 + c.toNat := nat_join 8 _ _ (by omega) (by omega)
  rw [e2] at e
  rw [← e]
  congr 1

set_option maxHeartbeats 1000000 in
theorem fromHighest_any (a : Option Addr) (n cap : Nat) (l : List UInt8) (w : World) (hr : Row w a l) (hn : n = l.length) (hl : l.length ≤ 8) :
    Calls Tryd.prog 84 #[.slice a n cap] w fun e w' => e = .returned (.int .u64 (ofBe l : Nat)) ∧ w' = w := by
  subst hn
  by_cases hne : l = []
  · subst hne
    go_enter Tryd.func84, Tryd.ntmps84
    go_wp2
    refine wp_loop_rounds 1 ?_
    rw [rounds_succ]
    go_wp2
    go_ret
    exact ⟨rfl, rfl⟩
  · obtain ⟨b, off, rfl, hc⟩ := hr hne
    go_enter Tryd.func84, Tryd.ntmps84
    go_wp2
    go_loop [3, 8] (fun c i => ∃ k : Nat, k ≤ l.length ∧ i = .int .i64 k ∧ c = .int .u64 (ofBe (l.take k) : Nat)) (fun _ i => l.length - (intOf i).toNat)
    case atStart => exact ⟨0, Nat.zero_le _, rfl, rfl⟩
    case round =>
      obtain ⟨k, hk, rfl, rfl⟩ := hrel
      by_cases hlt : k < l.length
      · have hcell := hc k hlt
        have hN : ofBe (l.take k) < 72057594037927936 := by
          have h1 := ofBe_lt (l.take k)
          have h2 : (l.take k).length ≤ 7 := by simp; omega
          have h3 := Nat.pow_le_pow_right (show 0 < 256 by decide) h2
          have h4 : (256 : Nat) ^ 7 = 72057594037927936 := by decide
          omega
        have HS : Hid (ofBe (l.take (k + 1)) = ofBe (l.take k) * 256 + l[k].toNat) := by
          show _ = _
          rw [ofBe_take l k hlt]
          simp [hlt]
        have hbk : l[k].toNat < 256 := l[k].toNat_lt
        have hor := shl_or (ofBe (l.take k)) l[k] hN
        generalize hNN : ofBe (l.take k) = N at *
        clear hNN
        go_wp2
        go_round
        case rel => exact ⟨k + 1, by omega, by go_num, int_eq (by rw [HS.out]; omega)⟩
        case measure => simp [intOf]; omega
      · have e : l.take k = l := List.take_of_length_le (by omega)
        rw [e]
        go_wp2
        go_ret
        exact ⟨rfl, rfl⟩

end Go.Proofs.YthhcaalafacjlaaDoor
end
section
set_option linter.unusedVariables false
namespace Go.Proofs.YthhcaalafacjlaaDoor
open Go.RowKit

theorem own_lit (w : World) (base : Nat) (z : Int) (c : UInt8) (hb : base ≤ w.heap.size) (hz : z = (c.toNat : Int)) : OwnB (w.alloc (.cells #[.int .u8 z] 5)) base (some ⟨w.heap.size, 0, none⟩) 1 [c] := by
  subst hz
  refine ⟨rfl, .inr ⟨w.heap.size, 1, #[.int .u8 (c.toNat : Int)], rfl, hb, heap_alloc_new w _, Nat.le_refl _, by unfold maxLen; omega, rfl, rfl⟩⟩

theorem byte_mod (n : Nat) : ((UInt8.ofNat n).toNat : Int) = ((n % 256 : Nat) : Int) := by simp

theorem byte_in (n : Nat) (h : n < 256) : ((UInt8.ofNat n).toNat : Int) = (n : Int) := by
  rw [byte_mod]
  omega

set_option maxHeartbeats 1000000 in
theorem rform_low (n : Int) (w : World) (h1 : n ≤ 247) (hn : -9223372036854775808 ≤ n) :
    Calls Tryd.prog 60 #[.int .i64 n] w fun e w' => ∃ a' cap' r, e = .returned (.slice a' r.length cap') ∧ Hid (r = form n.toNat) ∧ OwnB w' w.heap.size a' cap' r ∧ Below w.heap.size w w' := by
  obtain ⟨N, hN, hNb⟩ : ∃ N : Nat, n.toNat = N ∧ N ≤ 247 := ⟨n.toNat, rfl, by omega⟩
  have hfo : form n.toNat = [UInt8.ofNat N] := by rw [hN, form, if_pos hNb]
  have hby := byte_in N (by omega)
  rw [hfo]
  clear hfo
  by_cases h0 : n < 0
  · have hN0 : N = 0 := by omega
    subst hN0
    go_enter Tryd.func60, Tryd.ntmps60
    go_wp2
    go_ret
    exact ⟨_, 1, [UInt8.ofNat 0], rfl, rfl, own_lit w _ _ _ (Nat.le_refl _) (by rfl), (Below.refl _ _).alloc (Nat.le_refl _) _⟩
  · have hnn : 0 ≤ n := by omega
    have HN : Hid ((UInt8.ofNat N).toNat = n) := by show _ = _; omega
    clear hN hby
    go_enter Tryd.func60, Tryd.ntmps60
    go_wp2
    go_ret
    refine ⟨_, 1, [UInt8.ofNat N], rfl, rfl, own_lit w _ _ _ (Nat.le_refl _) (by have := HN.out; omega), (Below.refl _ _).alloc (Nat.le_refl _) _⟩

theorem pow_le_of (i N : Nat) (h : 256 ^ i ≤ N) (hN : N ≤ 9223372036854775807) : i ≤ 7 := by
  rcases Nat.lt_or_ge 7 i with h' | h'
  · have := Nat.pow_le_pow_right (show 0 < 256 by decide) h'
    have e : (256 : Nat) ^ (7 + 1) = 18446744073709551616 := by decide
    omega
  · exact h'

set_option maxHeartbeats 1000000 in
theorem rform_high (n : Int) (N : Nat) (w : World) (h1 : 248 ≤ n) (hn0 : n ≤ 9223372036854775807) (HN : Hid (n = (N : Int))) :
    Calls Tryd.prog 60 #[.int .i64 n] w fun e w' => ∃ a' cap' r, e = .returned (.slice a' r.length cap') ∧ Hid (r = form N) ∧ OwnB w' w.heap.size a' cap' r ∧ Below w.heap.size w w' := by
  go_enter Tryd.func60, Tryd.ntmps60
  go_wp2
  go_loopw [0, 3] (fun v o wr => ∃ (i : Nat) (M : Int) (a' : Option Addr) (cap' : Nat) (r : List UInt8), i ≤ 8 ∧ Hid (M = ((N / 256 ^ i : Nat) : Int)) ∧ v = .int .i64 M ∧ o = .slice a' r.length cap' ∧ Hid (r = be i N) ∧ Hid (i = 0 ∨ 256 ^ (i - 1) ≤ N) ∧ OwnB wr w.heap.size a' cap' r ∧ Below w.heap.size w wr) (fun v _ _ => (intOf v).toNat)
  case atStart => exact ⟨0, n, none, 0, [], by omega, (by show _ = _; rw [HN.out]; simp), rfl, rfl, rfl, .inl rfl, OwnB.nil _ _, Below.refl _ _⟩
  case round =>
    obtain ⟨i, M, a', cap', r, hi, HM, rfl, rfl, hr, hlo, ho, hb⟩ := hrel
    have hrl : r.length ≤ 8 := by rw [hr.out, be_length]; exact hi
    have hM0 : 0 ≤ M := by rw [HM.out]; exact Int.natCast_nonneg _
    have hMle : M ≤ 9223372036854775807 := by
      have := Nat.div_le_self N (256 ^ i)
      have h2 := HM.out
      have h3 := HN.out
      omega
    have hn : N ≤ 9223372036854775807 := by have h3 := HN.out; omega
    have h248 : 248 ≤ N := by have h3 := HN.out; omega
    by_cases hpos : 0 < M
    · have hup : 256 ^ i ≤ N := by
        rw [HM.out] at hpos
        exact (Nat.div_pos_iff.1 (by omega)).2
      have hi7 := pow_le_of i N hup hn
      obtain ⟨c, hc⟩ : ∃ c : UInt8, c = UInt8.ofNat (N / 256 ^ i) := ⟨_, rfl⟩
      have HC : Hid ((c.toNat : Int) = M % 256) := by
        show _ = _
        have := byte_mod (N / 256 ^ i)
        rw [hc, this, HM.out]
        omega
      have HR : Hid (c :: r = be (i + 1) N) := by
        show _ = _
        rw [be_left, hc, hr.out]
      have HM2 : Hid (M / 256 = ((N / 256 ^ (i + 1) : Nat) : Int)) := by
        show _ = _
        rw [HM.out, Nat.pow_succ, ← Nat.div_div_eq_div_mul]
        omega
      have HUP : Hid (i + 1 = 0 ∨ 256 ^ (i + 1 - 1) ≤ N) := .inr hup
      clear hc hr hup hlo hn h248
      go_wp2_with (at_builtin; refine wp_app _ rfl _ _ rfl w.heap.size (some ⟨wr.heap.size, 0, none⟩) 1 [c] rfl (own_lit wr _ _ c hb.size ?c1) a' cap' r _ rfl rfl (ho.toBs.row.alloc _) ho.toBs.nz ?c3 ?c4 ?_)
      case c1 => have := HC.out; omega
      case c3 => first | omega | (simp; omega)
      case c4 => have := hb.size; simp; omega
      intro a2 cap2 r2 w2 hr2 ho2 hg2
      have hsz := hb.size
      have hb2 : Below w.heap.size w w2 := below_grown (a := some ⟨wr.heap.size, 0, none⟩) (hb.alloc hsz _) hg2 (Nat.le_refl _) (fun k hk => by simp [blk] at hk; omega)
      have HR2 : Hid (r2 = be (i + 1) N) := by
        show _ = _
        rw [hr2.out, ← HR.out]
      clear hr2 hg2 HR
      go_wp2
      go_roundw
      case rel => exact ⟨i + 1, M / 256, a2, cap2, r2, by omega, HM2, rfl, rfl, HR2, HUP, ho2, hb2⟩
      case measure => simp [intOf]; omega
    · have hM0 : M = 0 := by omega
      have hlt : N < 256 ^ i := by
        have := HM.out
        have hp : 0 < 256 ^ i := Nat.pow_pos (by decide)
        exact (Nat.div_eq_zero_iff_lt hp).1 (by omega)
      subst hM0
      have hi1 : 1 ≤ i := by
        rcases Nat.eq_zero_or_pos i with h | h
        · subst h; simp at hlt; omega
        · exact h
      have hnb : nb N = i := by
        have := nb_of N (i - 1) (by omega) (by rcases hlo.out with h | h; omega; exact h) (by rw [show i - 1 + 1 = i by omega]; exact hlt)
        omega
      obtain ⟨c, hc⟩ : ∃ c : UInt8, c = UInt8.ofNat (247 + i) := ⟨_, rfl⟩
      have HC : Hid ((c.toNat : Int) = ((247 + i : Nat) : Int)) := by show _ = _; rw [hc]; exact byte_in _ (by omega)
      have HL : Hid (r.length = i) := by show _ = _; rw [hr.out, be_length]
      have HR : Hid (c :: r = form N) := by
        show _ = _
        rw [form, if_neg (by omega), hnb, hc, hr.out]
      clear hc hr hlt hlo hnb HM hn h248
      go_wp2_with (at_builtin; refine wp_app _ rfl _ _ rfl w.heap.size (some ⟨wr.heap.size, 0, none⟩) 1 [c] rfl (own_lit wr _ _ c hb.size ?c1) a' cap' r _ rfl rfl (ho.toBs.row.alloc _) ho.toBs.nz ?c3 ?c4 ?_)
      case c1 => have := HC.out; have := HL.out; omega
      case c3 => first | omega | (simp; omega)
      case c4 => have := hb.size; simp; omega
      intro a2 cap2 r2 w2 hr2 ho2 hg2
      have hsz := hb.size
      have hb2 : Below w.heap.size w w2 := below_grown (a := some ⟨wr.heap.size, 0, none⟩) (hb.alloc hsz _) hg2 (Nat.le_refl _) (fun k hk => by simp [blk] at hk; omega)
      have HR2 : Hid (r2 = form N) := by
        show _ = _
        rw [hr2.out, ← HR.out]
      clear hr2 hg2 HR
      go_wp2
      go_ret
      exact ⟨a2, cap2, r2, rfl, HR2, ho2, hb2⟩

theorem rform_any (n : Int) (w : World) (h0 : -9223372036854775808 ≤ n) (h1 : n ≤ 9223372036854775807) :
    Calls Tryd.prog 60 #[.int .i64 n] w fun e w' => ∃ a' cap' r, e = .returned (.slice a' r.length cap') ∧ Hid (r = form n.toNat) ∧ OwnB w' w.heap.size a' cap' r ∧ Below w.heap.size w w' := by
  by_cases h : n ≤ 247
  · exact rform_low n w h h0
  · obtain ⟨N, rfl⟩ := Int.eq_ofNat_of_zero_le (show 0 ≤ n by omega)
    exact rform_high (N : Int) N w (by omega) (by omega) rfl


set_option maxHeartbeats 1000000 in
/-- blotterref01.Number. -/
theorem rnumber_any (a : Option Addr) (cap : Nat) (l : List UInt8) (n : Int) (w : World) (hB : Bs w a cap l) (hl : l.length ≤ 900000) (h0 : -9223372036854775808 ≤ n) (h1 : n ≤ 9223372036854775807) :
    Calls Tryd.prog 41 #[.slice a l.length cap, .int .i64 n] w fun e w' => ∃ a' cap' r, e = .returned (.slice a' r.length cap') ∧ Hid (r = l ++ form n.toNat) ∧ OwnB w' w.heap.size a' cap' r ∧ Below w.heap.size w w' := by
  have hfl := form_le n.toNat
  go_enter Tryd.func41, Tryd.ntmps41
  go_wp2_with (at_builtin; refine wp_app _ rfl _ _ rfl w.heap.size (some ⟨w.heap.size, 0, none⟩) 0 [] rfl (own_empty w _ (Nat.le_refl _)) a cap l _ rfl rfl (hB.row.alloc _) hB.nz ?c3 ?c4 ?_)
  case c3 => simp; omega
  case c4 => simp
  intro a2 cap2 r2 w2 hr2 ho2 hg2
  have hb2 : Below w.heap.size w w2 := below_grown (a := some ⟨w.heap.size, 0, none⟩) ((Below.refl _ _).alloc (Nat.le_refl _) _) hg2 (Nat.le_refl _) (fun k hk => by simp [blk] at hk; omega)
  have hrl : r2.length ≤ 900000 := by rw [hr2.out]; simpa using hl
  clear hg2
  go_wp2_with fail
  refine (rform_any n w2 h0 h1).mono ?_
  rintro e w3 ⟨a3, cap3, r3, rfl, hr3, ho3, hb3⟩
  have ho2' := ho2.below hb3 (Nat.le_refl _)
  have hb3' : Below w.heap.size w w3 := hb2.trans (hb3.mono hb2.size)
  have hrl3 : r3.length ≤ 9 := by rw [hr3.out]; exact hfl.2
  have hbs3 := ho3.toBs
  clear ho2 hb2 hb3
  go_wp2_with (at_builtin; refine wp_app _ rfl _ _ rfl w.heap.size a2 cap2 r2 rfl ho2' a3 cap3 r3 _ rfl rfl hbs3.row hbs3.nz ?c5 hb3'.size ?_)
  case c5 => omega
  intro a4 cap4 r4 w4 hr4 ho4 hg4
  have hb4 : Below w.heap.size w w4 := below_grown hb3' hg4 (Nat.le_refl _) (fun k hk => (ho2'.lt k hk).1)
  have HR : Hid (r4 = l ++ form n.toNat) := by
    show _ = _
    rw [hr4.out, hr2.out, hr3.out]
  clear hr2 hr3 hr4 hg4
  go_wp2
  go_ret
  exact ⟨a4, cap4, r4, rfl, HR, ho4, hb4⟩

set_option maxHeartbeats 1000000 in
/-- blotterref01.Text. -/
theorem rtext_any (a : Option Addr) (cap : Nat) (l : List UInt8) (s : ByteArray) (w : World) (hB : Bs w a cap l) (hl : l.length ≤ 900000) (hs : s.size ≤ 900000) :
    Calls Tryd.prog 42 #[.slice a l.length cap, .string s] w fun e w' => ∃ a' cap' r, e = .returned (.slice a' r.length cap') ∧ Hid (r = l ++ (form s.size ++ s.data.toList)) ∧ OwnB w' w.heap.size a' cap' r ∧ Below w.heap.size w w' := by
  go_enter Tryd.func42, Tryd.ntmps42
  go_wp2_with fail
  refine (rnumber_any a cap l _ w hB hl (by omega) (by omega)).mono ?_
  rintro e w1 ⟨a1, cap1, r1, rfl, hr1, ho1, hb1⟩
  have hfl := form_le s.size
  rw [Int.toNat_natCast] at hr1
  have hrl : r1.length ≤ 900009 := by rw [hr1.out]; simp; omega
  go_wp2_with (at_builtin; refine wp_apps _ rfl _ _ rfl w.heap.size a1 cap1 r1 rfl ho1 s rfl ?c1 hb1.size ?_)
  case c1 => omega
  intro a2 cap2 r2 w2 hr2 ho2 hg2
  have hb2 : Below w.heap.size w w2 := below_grown hb1 hg2 (Nat.le_refl _) (fun k hk => (ho1.lt k hk).1)
  have HR : Hid (r2 = l ++ (form s.size ++ s.data.toList)) := by
    show _ = _
    rw [hr2.out, hr1.out, List.append_assoc]
  clear hr1 hr2 hg2 ho1 hb1
  go_wp2
  go_ret
  exact ⟨a2, cap2, r2, rfl, HR, ho2, hb2⟩

#print axioms rnumber_any
#print axioms rtext_any
end Go.Proofs.YthhcaalafacjlaaDoor
end
