/-
  THE LIBRARY's bytes.Clone, slices.Clone, bytes.Equal, told of lists of bytes; the text of a list of bytes.; THE WALK of slices.EqualFunc over slices of slices of bytes, with bytes.Equal.
-/
import Derived.Test.YtneclcihjbkhlaaGreatDoorPkSainad
import Derived.WalkSpells
import Derived.WalkLawsBesides
import Derived.Lib.SliceRun
section
set_option linter.unusedVariables false
namespace Go.Proofs.YtneclcihjbkhlaaGreatDoor
open Go.RowKit

/-- The text that a list of bytes is. -/
def str (l : List UInt8) : ByteArray := ⟨l.toArray⟩
theorem str_data (l : List UInt8) : (str l).data.toList = l := rfl
theorem str_size (l : List UInt8) : (str l).size = l.length := by simp [str, ByteArray.size]

theorem run_str (w : World) (a : Option Addr) (n cap : Nat) (l : List UInt8) (hr : Row w a l) (hn : n = l.length) :
    (convert 39 9 (.slice a n cap)).run Tryz.prog w = .ok (.string (str l)) w := by
  subst hn
  by_cases h : l = []
  · subst h
    cases a with
    | none => exact run_convert_bytes_nil w 39 5 Tryz.underlying39 Tryz.underlying5 0 cap 9 Tryz.underlying9
    | some ad =>
      show (convert 39 9 (.slice (some ad) 0 cap)).run Tryz.prog w = _
      rw [run_convert_bytes_string w 39 9 5 _ 0 cap Tryz.underlying39 Tryz.underlying5 Tryz.underlying9, run_bytesToString w ad 0 cap [] (by
        have := run_loadCells_list (P := Tryz.prog) w ad [] (fun j v hj => by simp at hj)
        simpa using this)]
      rfl
  · obtain ⟨b, off, rfl, hc⟩ := hr h
    have e := run_convert_bytes_arg (P := Tryz.prog) w 39 5 Tryz.underlying39 Tryz.underlying5 b off l.length cap (l.map fun c => (c.toNat : Int)) (by simp) (by
      intro i hi
      rw [hc i hi]
      simp [hi]) 9 Tryz.underlying9
    rw [e]
    have e2 : strOfNums (l.map fun c => (c.toNat : Int)) = str l := by
      have h : (l.map fun c => (c.toNat : Int)).map (fun n : Int => UInt8.ofNat n.toNat) = l := by
        rw [List.map_map]
        have : ((fun n : Int => UInt8.ofNat n.toNat) ∘ fun c : UInt8 => (c.toNat : Int)) = id := by
          funext c
          simp
        rw [this, List.map_id]
      unfold strOfNums str
      rw [h]
    rw [e2]

theorem toList_str (l : List UInt8) : (str l).toList = l := by
  rw [ByteArray.toList_eq]
  rfl

set_option maxHeartbeats 400000 in
theorem equal_any (a1 : Option Addr) (n1 cap1 : Nat) (l1 : List UInt8) (a2 : Option Addr) (n2 cap2 : Nat) (l2 : List UInt8) (w : World) (h1 : Row w a1 l1) (h2 : Row w a2 l2) (e1 : n1 = l1.length) (e2 : n2 = l2.length) :
    Calls Tryz.prog 24 #[.slice a1 n1 cap1, .slice a2 n2 cap2] w fun e w' => e = .returned (.bool (l1 == l2)) ∧ w' = w := by
  have k1 := run_str w a1 n1 cap1 l1 h1 e1
  have k2 := run_str w a2 n2 cap2 l2 h2 e2
  have t1 := toList_str l1
  have t2 := toList_str l2
  clear e1 e2
  go_enter Tryz.func24, Tryz.ntmps24
  go_wp2
  go_ret
  exact ⟨rfl, rfl⟩

theorem own_empty (w : World) (base : Nat) (hb : base ≤ w.heap.size) : OwnB (w.alloc (.cells #[] 5)) base (some ⟨w.heap.size, 0, none⟩) 0 [] :=
  World.ownsRow_made w #[] 0 hb (by unfold maxLen; omega) rfl

set_option maxHeartbeats 400000 in
theorem sclone_any (a : Option Addr) (n cap : Nat) (l : List UInt8) (w : World) (hr : Bs w a cap l) (hn : n = l.length) (hl : l.length ≤ 100000000) :
    Calls Tryz.prog 62 #[.slice a n cap] w fun e w' => ∃ a' cap' r, e = .returned (.slice a' r.length cap') ∧ Hid (r = l) ∧ OwnB w' w.heap.size a' cap' r ∧ Below w.heap.size w w' := by
  have hq := fun (wx : World) (a : Option Addr) (n c : Nat) => Lib.run_eql_slice_nil (P := Tryz.prog) wx 39 5 a n c 0 0 Tryz.underlying39
  cases a with
  | none =>
    have hl0 : l = [] := by
      apply Classical.byContradiction
      intro hne
      obtain ⟨b, off, hh, _⟩ := hr.row hne
      cases hh
    subst hl0
    go_enter Tryz.func62, Tryz.ntmps62
    go_wp2
    go_ret
    exact ⟨none, 0, [], rfl, rfl, OwnB.nil _ _, Below.refl _ _⟩
  | some ad =>
    subst hn
    go_enter Tryz.func62, Tryz.ntmps62
    go_wp2_with (at_builtin; refine wp_app _ rfl _ _ rfl w.heap.size (some ⟨w.heap.size, 0, none⟩) 0 [] rfl (own_empty w _ (Nat.le_refl _)) (some ad) cap l _ rfl rfl (hr.row.alloc _) (fun h => by cases h) ?c3 ?c4 ?_)
    case c3 => simp; omega
    case c4 => simp
    intro a2 cap2 r2 w2 hr2 ho2 hg2
    have hb2 : Below w.heap.size w w2 := below_grown (a := some ⟨w.heap.size, 0, none⟩) ((Below.refl _ _).alloc (Nat.le_refl _) _) hg2 (Nat.le_refl _) (fun k hk => by simp [blk] at hk; omega)
    have HR : Hid (r2 = l) := by
      show _ = _
      rw [hr2.out]
    clear hr2 hg2
    go_wp2
    go_ret
    exact ⟨a2, cap2, r2, rfl, HR, ho2, hb2⟩

set_option maxHeartbeats 400000 in
theorem bclone_any (a : Option Addr) (n cap : Nat) (l : List UInt8) (w : World) (hr : Bs w a cap l) (hn : n = l.length) (hl : l.length ≤ 100000000) :
    Calls Tryz.prog 67 #[.slice a n cap] w fun e w' => ∃ a' cap' r, e = .returned (.slice a' r.length cap') ∧ Hid (r = l) ∧ OwnB w' w.heap.size a' cap' r ∧ Below w.heap.size w w' := by
  have hq := fun (wx : World) (a : Option Addr) (n c : Nat) => Lib.run_eql_slice_nil (P := Tryz.prog) wx 39 5 a n c 0 0 Tryz.underlying39
  cases a with
  | none =>
    have hl0 : l = [] := by
      apply Classical.byContradiction
      intro hne
      obtain ⟨b, off, hh, _⟩ := hr.row hne
      cases hh
    subst hl0
    go_enter Tryz.func67, Tryz.ntmps67
    go_wp2
    go_ret
    exact ⟨none, 0, [], rfl, rfl, OwnB.nil _ _, Below.refl _ _⟩
  | some ad =>
    subst hn
    go_enter Tryz.func67, Tryz.ntmps67
    go_wp2_with (at_builtin; refine wp_app _ rfl _ _ rfl w.heap.size (some ⟨w.heap.size, 0, none⟩) 0 [] rfl (own_empty w _ (Nat.le_refl _)) (some ad) cap l _ rfl rfl (hr.row.alloc _) (fun h => by cases h) ?c3 ?c4 ?_)
    case c3 => simp; omega
    case c4 => simp
    intro a2 cap2 r2 w2 hr2 ho2 hg2
    have hb2 : Below w.heap.size w w2 := below_grown (a := some ⟨w.heap.size, 0, none⟩) ((Below.refl _ _).alloc (Nat.le_refl _) _) hg2 (Nat.le_refl _) (fun k hk => by simp [blk] at hk; omega)
    have HR : Hid (r2 = l) := by
      show _ = _
      rw [hr2.out]
    clear hr2 hg2
    go_wp2
    go_ret
    exact ⟨a2, cap2, r2, rfl, HR, ho2, hb2⟩

#print axioms own_empty
end Go.Proofs.YtneclcihjbkhlaaGreatDoor
end
section
set_option linter.unusedVariables false
namespace Go.Proofs.YtneclcihjbkhlaaGreatDoor
open Go.RowKit

/-- A slice of slices that can be read, and the lists that these hold. -/
structure SR (w : World) (a : Option Addr) (vs : List Sl) (ps : List (List UInt8)) : Prop where
  len : vs.length = ps.length
  row : vs ≠ [] → ∃ b off, a = some ⟨b, off, none⟩ ∧ ∀ (i : Nat) (x : Sl), vs[i]? = some x → w.cell? ⟨b, off + i, none⟩ = some (.slice x.1 x.2.1 x.2.2)
  pay : ∀ (i : Nat) (p : List UInt8), ps[i]? = some p → ∃ c cap, vs[i]? = some (c, p.length, cap) ∧ Row w c p
theorem SR.of {w : World} {base base' : Nat} {a : Option Addr} {cap : Nat} {vs : List Sl} {ps : List (List UInt8)} (h : OwnS w base a cap vs) (p : Pays w base' vs ps) : SR w a vs ps := by
  refine ⟨p.len, fun hne => ?_, fun i q hq => ?_⟩
  · obtain ⟨g, rfl, _, _, _, hc⟩ := h.some (List.length_pos_iff.2 hne)
    exact ⟨g, 0, rfl, fun i x hx => by rw [Nat.zero_add]; exact hc i x hx⟩
  · obtain ⟨c, cap, h1, h2⟩ := p.own i q hq
    exact ⟨c, cap, h1, h2.toBs.row⟩

theorem list_ext {α : Type} (x y : List α) (k : Nat) (h : x.take k = y.take k) (hx : x.length = k) (hy : y.length = k) : x = y := by
  rw [List.take_of_length_le (by omega), List.take_of_length_le (by omega)] at h
  exact h
theorem take_step {α : Type} (x y : List α) (k : Nat) (h : x.take k = y.take k) (h2 : x[k]? = y[k]?) : x.take (k + 1) = y.take (k + 1) := by
  rw [List.take_add_one, List.take_add_one, h, h2]

set_option maxHeartbeats 2000000 in
theorem eqfunc_n (a1 : Option Addr) (cap1 : Nat) (v1 : List Sl) (p1 : List (List UInt8)) (a2 : Option Addr) (cap2 : Nat) (v2 : List Sl) (p2 : List (List UInt8)) (w : World) (n1 n2 : Nat) (E1 : Hid (n1 = v1.length)) (E2 : Hid (n2 = v2.length)) (h1 : SR w a1 v1 p1) (h2 : SR w a2 v2 p2) (hl1 : n1 ≤ 1000000000) (hl2 : n2 ≤ 1000000000) :
    Calls Tryz.prog 33 #[.slice a1 n1 cap1, .slice a2 n2 cap2, .func (.func 24) #[] #[]] w fun e w' => e = .returned (.bool (p1 == p2)) ∧ w' = w := by
  have L1 : Hid (n1 = p1.length) := by show _ = _; rw [unhide E1]; exact h1.len
  have L2 : Hid (n2 = p2.length) := by show _ = _; rw [unhide E2]; exact h2.len
  by_cases hl : n1 = n2
  · subst hl
    go_enter Tryz.func33, Tryz.ntmps33
    go_wp2
    go_loop [17] (fun i => ∃ k : Nat, k ≤ n1 ∧ i = .int .i64 (k : Int) ∧ Hid (p1.take k = p2.take k)) (fun i => n1 - (intOf i).toNat)
    case atStart => exact ⟨0, Nat.zero_le _, rfl, (by show _ = _; simp)⟩
    case round =>
      obtain ⟨k, hk, rfl, HT⟩ := hrel
      by_cases hlt : k < n1
      · have hk1 : k < p1.length := by have := unhide L1; omega
        have hk2 : k < p2.length := by have := unhide L2; omega
        have g1 := List.getElem?_eq_getElem hk1
        have g2 := List.getElem?_eq_getElem hk2
        obtain ⟨c1, d1, hv1, hr1⟩ := h1.pay k _ g1
        obtain ⟨c2, d2, hv2, hr2⟩ := h2.pay k _ g2
        obtain ⟨b1, o1, rfl, hc1⟩ := h1.row (by intro e; subst e; have := unhide E1; simp at this; omega)
        obtain ⟨b2, o2, rfl, hc2⟩ := h2.row (by intro e; subst e; have := unhide E2; simp at this; omega)
        have k1 := hc1 k _ hv1
        have k2 := hc2 k _ hv2
        simp only at k1 k2
        obtain ⟨x, hx⟩ : ∃ x, x = p1[k] := ⟨_, rfl⟩
        obtain ⟨y, hy⟩ : ∃ y, y = p2[k] := ⟨_, rfl⟩
        rw [← hx] at k1 hr1 g1
        rw [← hy] at k2 hr2 g2
        have Hr1 := hide hr1
        have Hr2 := hide hr2
        have G1 := hide g1
        have G2 := hide g2
        clear hx hy hc1 hc2 hv1 hv2 hr1 hr2 g1 g2
        go_wp2_with fail
        refine (equal_any c1 _ d1 x c2 _ d2 y w (unhide Hr1) (unhide Hr2) rfl rfl).mono ?_
        rintro e w' ⟨rfl, rfl⟩
        by_cases hxy : x = y
        · have hb : (x == y) = true := by simp [hxy]
          have HT2 : Hid (p1.take (k + 1) = p2.take (k + 1)) := take_step p1 p2 k (unhide HT) (by rw [unhide G1, unhide G2, hxy])
          clear hxy
          rw [hb]
          go_wp2
          go_round
          case rel => exact ⟨k + 1, by omega, by go_num, HT2⟩
          case measure => simp [intOf]; omega
        · have hb : (x == y) = false := by simp [hxy]
          have HF : Hid ((p1 == p2) = false) := by
            show _ = _
            simp only [beq_eq_false_iff_ne, ne_eq]
            intro e
            apply hxy
            have := unhide G1
            rw [e, unhide G2] at this
            exact (Option.some.inj this).symm
          clear hxy
          rw [hb]
          go_wp2
          go_ret
          exact ⟨by rw [unhide HF]; rfl, rfl⟩
      · obtain rfl : k = n1 := by omega
        have HF : Hid ((p1 == p2) = true) := by
          show _ = _
          have := list_ext p1 p2 k (unhide HT) (unhide L1).symm (unhide L2).symm
          rw [this]; simp
        go_wp2
        go_ret
        exact ⟨by rw [unhide HF]; rfl, rfl⟩
  · have HF : Hid ((p1 == p2) = false) := by
      show _ = _
      simp only [beq_eq_false_iff_ne, ne_eq]
      intro e
      apply hl
      rw [unhide L1, unhide L2, e]
    have hd : ((n1 : Int) != (n2 : Int)) = true := by simp; omega
    go_enter Tryz.func33, Tryz.ntmps33
    go_wp2
    go_ret
    exact ⟨by rw [unhide HF]; rfl, rfl⟩
theorem eqfunc_any (a1 : Option Addr) (cap1 : Nat) (v1 : List Sl) (p1 : List (List UInt8)) (a2 : Option Addr) (cap2 : Nat) (v2 : List Sl) (p2 : List (List UInt8)) (w : World) (h1 : SR w a1 v1 p1) (h2 : SR w a2 v2 p2) (hl1 : v1.length ≤ 1000000000) (hl2 : v2.length ≤ 1000000000) :
    Calls Tryz.prog 33 #[.slice a1 v1.length cap1, .slice a2 v2.length cap2, .func (.func 24) #[] #[]] w fun e w' => e = .returned (.bool (p1 == p2)) ∧ w' = w :=
  eqfunc_n a1 cap1 v1 p1 a2 cap2 v2 p2 w _ _ rfl rfl h1 h2 hl1 hl2
#print axioms eqfunc_any
end Go.Proofs.YtneclcihjbkhlaaGreatDoor
end
