/-
  THE LIBRARY's bytes.Clone, slices.Clone, bytes.Equal, told of lists of bytes; the text of a list of bytes.; wsock: a mask over bytes (model), THE WALK of masked.; wsock: which frames may be; THE WALK of mayBe; the header's bytes (model).; wsock: fromHighest, readSize.
-/
import Derived.Test.YtegbcjfceooflaaDoorPkWptsad
import Derived.WalkSpells
import Derived.WalkLawsBesides
import Derived.Lib.SliceRun
section
set_option linter.unusedVariables false
namespace Go.Proofs.YtegbcjfceooflaaDoor
open Go.RowKit

/-- The text that a list of bytes is. -/
def str (l : List UInt8) : ByteArray := ⟨l.toArray⟩
theorem str_data (l : List UInt8) : (str l).data.toList = l := rfl
theorem str_size (l : List UInt8) : (str l).size = l.length := by simp [str, ByteArray.size]

theorem run_str (w : World) (a : Option Addr) (n cap : Nat) (l : List UInt8) (hr : Row w a l) (hn : n = l.length) :
    (convert 23 9 (.slice a n cap)).run Tryd.prog w = .ok (.string (str l)) w := by
  subst hn
  by_cases h : l = []
  · subst h
    cases a with
    | none => exact run_convert_bytes_nil w 23 5 Tryd.underlying23 Tryd.underlying5 0 cap 9 Tryd.underlying9
    | some ad =>
      show (convert 23 9 (.slice (some ad) 0 cap)).run Tryd.prog w = _
      rw [run_convert_bytes_string w 23 9 5 _ 0 cap Tryd.underlying23 Tryd.underlying5 Tryd.underlying9, run_bytesToString w ad 0 cap [] (by
        have := run_loadCells_list (P := Tryd.prog) w ad [] (fun j v hj => by simp at hj)
        simpa using this)]
      rfl
  · obtain ⟨b, off, rfl, hc⟩ := hr h
    have e := run_convert_bytes_arg (P := Tryd.prog) w 23 5 Tryd.underlying23 Tryd.underlying5 b off l.length cap (l.map fun c => (c.toNat : Int)) (by simp) (by
      intro i hi
      rw [hc i hi]
      simp [hi]) 9 Tryd.underlying9
    rw [e]
    have e2 : strOfNums (l.map fun c => (c.toNat : Int)) = str l := by
      have h : (l.map fun c => (c.toNat : Int)).map (fun n : Int => UInt8.ofNat n.toNat) = l := by
        rw [List.map_map]
        have : ((fun n : Int => UInt8.ofNat n.toNat) ∘ fun c : UInt8 => (c.toNat : Int)) = id := by
          funext c
          simp
        rw [this, List.map_id]
      unfold strOfNums str
      rw [h]
    rw [e2]

theorem toList_str (l : List UInt8) : (str l).toList = l := by
  rw [ByteArray.toList_eq]
  rfl

set_option maxHeartbeats 400000 in
theorem equal_any (a1 : Option Addr) (n1 cap1 : Nat) (l1 : List UInt8) (a2 : Option Addr) (n2 cap2 : Nat) (l2 : List UInt8) (w : World) (h1 : Row w a1 l1) (h2 : Row w a2 l2) (e1 : n1 = l1.length) (e2 : n2 = l2.length) :
    Calls Tryd.prog 15 #[.slice a1 n1 cap1, .slice a2 n2 cap2] w fun e w' => e = .returned (.bool (l1 == l2)) ∧ w' = w := by
  have k1 := run_str w a1 n1 cap1 l1 h1 e1
  have k2 := run_str w a2 n2 cap2 l2 h2 e2
  have t1 := toList_str l1
  have t2 := toList_str l2
  clear e1 e2
  go_enter Tryd.func15, Tryd.ntmps15
  go_wp2
  go_ret
  exact ⟨rfl, rfl⟩

theorem own_empty (w : World) (base : Nat) (hb : base ≤ w.heap.size) : OwnB (w.alloc (.cells #[] 5)) base (some ⟨w.heap.size, 0, none⟩) 0 [] :=
  World.ownsRow_made w #[] 0 hb (by unfold maxLen; omega) rfl

set_option maxHeartbeats 400000 in
theorem bclone_any (a : Option Addr) (n cap : Nat) (l : List UInt8) (w : World) (hr : Bs w a cap l) (hn : n = l.length) (hl : l.length ≤ 100000000) :
    Calls Tryd.prog 53 #[.slice a n cap] w fun e w' => ∃ a' cap' r, e = .returned (.slice a' r.length cap') ∧ Hid (r = l) ∧ OwnB w' w.heap.size a' cap' r ∧ Below w.heap.size w w' := by
  have hq := fun (wx : World) (a : Option Addr) (n c : Nat) => Lib.run_eql_slice_nil (P := Tryd.prog) wx 23 5 a n c 0 0 Tryd.underlying23
  cases a with
  | none =>
    have hl0 : l = [] := by
      apply Classical.byContradiction
      intro hne
      obtain ⟨b, off, hh, _⟩ := hr.row hne
      cases hh
    subst hl0
    go_enter Tryd.func53, Tryd.ntmps53
    go_wp2
    go_ret
    exact ⟨none, 0, [], rfl, rfl, OwnB.nil _ _, Below.refl _ _⟩
  | some ad =>
    subst hn
    go_enter Tryd.func53, Tryd.ntmps53
    go_wp2_with (at_builtin; refine wp_app _ rfl _ _ rfl w.heap.size (some ⟨w.heap.size, 0, none⟩) 0 [] rfl (own_empty w _ (Nat.le_refl _)) (some ad) cap l _ rfl rfl (hr.row.alloc _) (fun h => by cases h) ?c3 ?c4 ?_)
    case c3 => simp; omega
    case c4 => simp
    intro a2 cap2 r2 w2 hr2 ho2 hg2
    have hb2 : Below w.heap.size w w2 := below_grown (a := some ⟨w.heap.size, 0, none⟩) ((Below.refl _ _).alloc (Nat.le_refl _) _) hg2 (Nat.le_refl _) (fun k hk => by simp [blk] at hk; omega)
    have HR : Hid (r2 = l) := by
      show _ = _
      rw [hr2.out]
    clear hr2 hg2
    go_wp2
    go_ret
    exact ⟨a2, cap2, r2, rfl, HR, ho2, hb2⟩

#print axioms own_empty
end Go.Proofs.YtegbcjfceooflaaDoor
end
section
set_option linter.unusedVariables false
set_option maxRecDepth 1000000
namespace Go.Proofs.YtegbcjfceooflaaDoor
open Go.RowKit

/-- The first k bytes under a mask of four. -/
def pm (m l : List UInt8) (k : Nat) : List UInt8 := l.mapIdx (fun i c => if i < k then c ^^^ m.getD (i % 4) 0 else c)
def xm (m l : List UInt8) : List UInt8 := if m = [] then l else pm m l l.length
theorem pm_length (m l : List UInt8) (k : Nat) : (pm m l k).length = l.length := by simp [pm]
theorem pm_zero (m l : List UInt8) : pm m l 0 = l := by
  apply List.ext_getElem?
  intro i
  simp [pm, List.getElem?_mapIdx]
theorem pm_get (m l : List UInt8) (k i : Nat) (h : i < l.length) : (pm m l k).getD i 0 = if i < k then l.getD i 0 ^^^ m.getD (i % 4) 0 else l.getD i 0 := by
  simp only [List.getD_eq_getElem?_getD, pm, List.getElem?_mapIdx, List.getElem?_eq_getElem h]
  simp
theorem pm_succ (m l : List UInt8) (k : Nat) (h : k < l.length) : (pm m l k).set k (l.getD k 0 ^^^ m.getD (k % 4) 0) = pm m l (k + 1) := by
  apply List.ext_getElem?
  intro i
  by_cases hi : i < l.length
  · rw [List.getElem?_set]
    by_cases hk : k = i
    · subst hk
      rw [if_pos rfl, if_pos (by rw [pm_length]; exact h)]
      simp [pm, h]
    · rw [if_neg hk]
      simp only [pm, List.getElem?_mapIdx, List.getElem?_eq_getElem hi, Option.map_some]
      congr 1
      have : (i < k) ↔ (i < k + 1) := by omega
      simp [this]
  · rw [List.getElem?_eq_none (by simp [pm_length]; omega), List.getElem?_eq_none (by simp [pm_length]; omega)]
theorem u8xw (a b : UInt8) : bits .xor .u8 (a.toNat : Int) (b.toNat : Int) = ((a ^^^ b).toNat : Int) := by
  rw [u8_xor_nat _ _ a.toNat_lt b.toNat_lt, UInt8.toNat_xor]
theorem own_storedw {w : World} {base g cap : Nat} {l : List UInt8} (h : OwnB w base (some ⟨g, 0, none⟩) cap l) (j : Nat) (c : UInt8) : OwnB (w.setCell ⟨g, j, none⟩ (.int .u8 (c.toNat : Int))) base (some ⟨g, 0, none⟩) cap (l.set j c) := by
  have := World.ownsRow.stored h j (.int .u8 (c.toNat : Int))
  unfold OwnB
  rw [List.length_set]
  have e : bs (l.set j c) = (bs l).set j (.int .u8 (c.toNat : Int)) := by simp [bs, List.map_set]
  rw [e]
  exact this.1

set_option maxHeartbeats 4000000 in
theorem wmask_any (a : Option Addr) (ca : Nat) (l : List UInt8) (b : Option Addr) (cb : Nat) (m : List UInt8) (w : World) (hA : Bs w a ca l) (hM : Bs w b cb m) (hl : l.length ≤ 1000000) (hm : m = [] ∨ m.length = 4) :
    Calls Tryd.prog 30 #[.slice a l.length ca, .slice b m.length cb] w fun e w' => ∃ a' c' r, e = .returned (.slice a' r.length c') ∧ Hid (r = xm m l) ∧ Hid (OwnB w' w.heap.size a' c' r) ∧ Hid (Below w.heap.size w w') := by
  have HA := hide hA
  have HM := hide hM
  clear hA hM
  go_enter Tryd.func30, Tryd.ntmps30
  go_wp2_with fail
  refine (bclone_any a l.length ca l w HA.out rfl (by omega)).mono ?_
  rintro e w2 ⟨y, cy, r, rfl, hr, ho, hb2⟩
  obtain rfl : r = l := hr.out
  rcases hm with rfl | hm
  · have HX : Hid (r = xm [] r) := by show _ = _; simp [xm]
    have HO := hide ho
    have HB := hide hb2
    clear ho hb2 hr
    simp only [List.length_nil]
    go_wp2
    go_ret
    exact ⟨y, cy, r, rfl, HX, HO, HB⟩
  · have HXM : Hid (xm m r = pm m r r.length) := by show _ = _; unfold xm; rw [if_neg (by intro e; rw [e] at hm; simp at hm)]
    have HO := hide ho
    have HB := hide hb2
    have hm0 : decide ((0 : Int) < (m.length : Int)) = true := decide_eq_true (by omega)
    clear ho hb2 hr
    go_wp2
    go_loopw [14] (fun v wr => ∃ (k : Nat), k ≤ r.length ∧ v = .int .i64 (k : Int) ∧ Hid (OwnB wr w.heap.size y cy (pm m r k)) ∧ Hid (Below w.heap.size w wr)) (fun v _ => r.length - (intOf v).toNat)
    case atStart => exact ⟨0, Nat.zero_le _, rfl, (by show OwnB _ _ _ _ _; rw [pm_zero]; exact HO.out), HB⟩
    case round =>
      clear HO HB
      obtain ⟨k, hk, rfl, ho, hb⟩ := hrel
      by_cases hlt : k < r.length
      · obtain ⟨gy, rfl, hgy1, hgy2, hcy, hfy⟩ := ho.out.some (by rw [pm_length]; omega)
        have c0 := hcy k (by rw [pm_length]; exact hlt)
        rw [pm_get m r k k hlt, if_neg (by omega)] at c0
        have f0 := hfy k
        obtain ⟨bm, om, rfl, hcm⟩ := (HM.out.row.below hb.out (Nat.le_refl _)) (by intro e; rw [e] at hm; simp at hm)
        obtain ⟨q, hq⟩ : ∃ q, q = k % 4 := ⟨_, rfl⟩
        have hq4 : q < 4 := by omega
        have hq1 : (k : Int).tmod 4 = (q : Int) := by rw [hq]; rfl
        have hq2 : (k : Int) % 4 = (q : Int) := by rw [hq]; simp
        have c1 := hcm q (by omega)
        have hk2 : (k : Int) < (r.length : Int) := by omega
        have hqm : (q : Int) < (m.length : Int) := by omega
        have HST := hide (own_storedw ho.out k (r.getD k 0 ^^^ m.getD q 0))
        rw [hq, pm_succ m r k hlt, ← hq] at HST
        have HBB : Hid (Below w.heap.size w (wr.setCell ⟨gy, k, none⟩ (.int .u8 ((r.getD k 0 ^^^ m.getD q 0).toNat : Int)))) := hb.out.grown (grownBy_setCell wr _ _) hb.out.size (fun j hj => by rw [← Option.some.inj hj]; exact hgy1)
        have hx := u8xw (r.getD k 0) (m.getD q 0)
        generalize r.getD k 0 = v1 at *
        generalize m.getD q 0 = v2 at *
        generalize v1 ^^^ v2 = v3 at *
        clear hq hcy hfy hcm ho hb
        have hqm4 : (q : Int) < 4 := by omega
        go_wp2
        go_region
        all_goals
          go_wp2
          go_roundw
          case rel => exact ⟨k + 1, by omega, by go_num, HST, HBB.out.drew⟩
          case measure => simp [intOf]; omega
      · obtain rfl : k = r.length := by omega
        have hll : (pm m r r.length).length = r.length := pm_length m r _
        have HLL := hide hll
        clear hll
        go_wp2
        go_ret
        exact ⟨y, cy, pm m r r.length, by rw [HLL.out]; rfl, HXM.out.symm, ho, hb⟩
#print axioms wmask_any
end Go.Proofs.YtegbcjfceooflaaDoor
end
section
set_option linter.unusedVariables false
set_option maxRecDepth 1000000
namespace Go.Proofs.YtegbcjfceooflaaDoor
open Go.RowKit

def isCtl (op : Int) : Bool := op == 8 || op == 9 || op == 10
def isMsg (op : Int) : Bool := op == 0 || op == 1 || op == 2
def mayB (op : Int) (fin : Bool) (size : Int) : Bool := if isCtl op then fin && decide (size ≤ 125) else isMsg op
theorem mayB_op {op : Int} {fin : Bool} {size : Int} (h : mayB op fin size = true) : ∃ n : Nat, op = (n : Int) ∧ n ≤ 10 := by
  unfold mayB at h
  split at h
  · rename_i hc
    simp only [isCtl, Bool.or_eq_true, beq_iff_eq] at hc
    rcases hc with (rfl | rfl) | rfl
    · exact ⟨8, rfl, by omega⟩
    · exact ⟨9, rfl, by omega⟩
    · exact ⟨10, rfl, by omega⟩
  · simp only [isMsg, Bool.or_eq_true, beq_iff_eq] at h
    rcases h with (rfl | rfl) | rfl
    · exact ⟨0, rfl, by omega⟩
    · exact ⟨1, rfl, by omega⟩
    · exact ⟨2, rfl, by omega⟩
set_option maxHeartbeats 2000000 in
theorem mayBe_any (op : Int) (fin : Bool) (size : Int) (w : World) :
    Calls Tryd.prog 29 #[.int .i64 op, .bool fin, .int .i64 size] w fun e w' => e = .returned (.bool (mayB op fin size)) ∧ w' = w := by
  obtain ⟨B, hB⟩ : ∃ B, mayB op fin size = B := ⟨_, rfl⟩
  rw [hB]
  have HB := hide hB
  clear hB
  by_cases h8 : op = 8 ∨ op = 9 ∨ op = 10
  · have HC : Hid (B = (fin && decide (size ≤ 125))) := by
      show _ = _
      rw [← HB.out]
      unfold mayB
      rw [if_pos (by simp only [isCtl, Bool.or_eq_true, beq_iff_eq]; omega)]
    clear HB
    cases fin with
    | false =>
      obtain rfl : B = false := HC.out
      rcases h8 with rfl | rfl | rfl
      all_goals
        go_enter Tryd.func29, Tryd.ntmps29
        go_wp2
        go_ret
        exact ⟨rfl, rfl⟩
    | true =>
      by_cases hs : 125 < size
      · have d1 : decide (125 < size) = true := decide_eq_true hs
        obtain rfl : B = false := by rw [HC.out]; simp; omega
        rcases h8 with rfl | rfl | rfl
        all_goals
          go_enter Tryd.func29, Tryd.ntmps29
          go_wp2
          go_ret
          exact ⟨rfl, rfl⟩
      · have d1 : decide (125 < size) = false := decide_eq_false hs
        obtain rfl : B = true := by rw [HC.out]; simp; omega
        rcases h8 with rfl | rfl | rfl
        all_goals
          go_enter Tryd.func29, Tryd.ntmps29
          go_wp2
          go_ret
          exact ⟨rfl, rfl⟩
  · have HC : Hid (B = isMsg op) := by
      show _ = _
      rw [← HB.out]
      unfold mayB
      rw [if_neg (by simp only [isCtl, Bool.or_eq_true, beq_iff_eq]; omega)]
    clear HB
    have n8 : (op == 8) = false := by simp; omega
    have n9 : (op == 9) = false := by simp; omega
    have n10 : (op == 10) = false := by simp; omega
    by_cases h0 : op = 0 ∨ op = 1 ∨ op = 2
    · obtain rfl : B = true := by rw [HC.out]; simp only [isMsg, Bool.or_eq_true, beq_iff_eq]; omega
      clear n8 n9 n10 h8
      rcases h0 with rfl | rfl | rfl
      all_goals
        go_enter Tryd.func29, Tryd.ntmps29
        go_wp2
        go_ret
        exact ⟨rfl, rfl⟩
    · obtain rfl : B = false := by rw [HC.out]; simp only [isMsg, Bool.or_eq_false_iff, beq_eq_false_iff_ne]; omega
      have n0 : (op == 0) = false := by simp; omega
      have n1 : (op == 1) = false := by simp; omega
      have n2 : (op == 2) = false := by simp; omega
      clear h8 h0
      go_enter Tryd.func29, Tryd.ntmps29
      go_wp2
      go_ret
      exact ⟨rfl, rfl⟩
#print axioms mayBe_any
end Go.Proofs.YtegbcjfceooflaaDoor
end
section
set_option linter.unusedVariables false
namespace Go.Proofs.YtegbcjfceooflaaDoor
open Go.RowKit

/-- The number of bytes of which the highest stands first. -/
def fh (l : List UInt8) : Nat := l.foldl (fun a c => a * 256 + c.toNat) 0
theorem fh_snoc (l : List UInt8) (c : UInt8) : fh (l ++ [c]) = fh l * 256 + c.toNat := by simp [fh]
theorem fh_lt' : ∀ (l : List UInt8) (a : Nat), l.foldl (fun a c => a * 256 + c.toNat) a < (a + 1) * 256 ^ l.length
  | [], a => by simp
  | c :: r, a => by
    have ih := fh_lt' r (a * 256 + c.toNat)
    have hc := c.toNat_lt
    rw [List.length_cons, Nat.pow_succ]
    have h1 : (a * 256 + c.toNat + 1) * 256 ^ r.length ≤ ((a + 1) * 256) * 256 ^ r.length := Nat.mul_le_mul_right _ (by omega)
    have h2 : (a + 1) * (256 ^ r.length * 256) = ((a + 1) * 256) * 256 ^ r.length := by rw [Nat.mul_comm (256 ^ r.length) 256, Nat.mul_assoc]
    rw [h2]
    exact Nat.lt_of_lt_of_le ih h1
theorem fh_lt (l : List UInt8) : fh l < 256 ^ l.length := by
  have := fh_lt' l 0
  simpa [fh] using this
theorem fh_take (l : List UInt8) (k : Nat) (h : k < l.length) : fh (l.take (k + 1)) = fh (l.take k) * 256 + l[k].toNat := by
  rw [List.take_add_one, List.getElem?_eq_getElem h]
  exact fh_snoc _ _
theorem shl_orw (N : Nat) (c : UInt8) (h : N < 72057594037927936) : bits .or .u64 ((N : Int) * 256) (c.toNat : Int) = ((N * 256 + c.toNat : Nat) : Int) := by
  have hc : c.toNat < 256 := c.toNat_lt
  have e := u64_or_nat (N * 256) c.toNat (by omega) (by omega)
  have e2 : N * 256 ||| c.toNat = N * 256 + c.toNat := nat_join 8 _ _ (by omega) (by omega)
  rw [e2] at e
  rw [← e]
  congr 1

set_option maxHeartbeats 1000000 in
theorem fh_any (a : Option Addr) (n cap : Nat) (l : List UInt8) (w : World) (hr : Row w a l) (hn : n = l.length) (hl : l.length ≤ 8) :
    Calls Tryd.prog 54 #[.slice a n cap] w fun e w' => e = .returned (.int .u64 (fh l : Nat)) ∧ w' = w := by
  subst hn
  by_cases hne : l = []
  · subst hne
    go_enter Tryd.func54, Tryd.ntmps54
    go_wp2
    refine wp_loop_rounds 1 ?_
    rw [rounds_succ]
    go_wp2
    go_ret
    exact ⟨rfl, rfl⟩
  · obtain ⟨b, off, rfl, hc⟩ := hr hne
    go_enter Tryd.func54, Tryd.ntmps54
    go_wp2
    go_loop [3, 8] (fun c i => ∃ k : Nat, k ≤ l.length ∧ i = .int .i64 k ∧ c = .int .u64 (fh (l.take k) : Nat)) (fun _ i => l.length - (intOf i).toNat)
    case atStart => exact ⟨0, Nat.zero_le _, rfl, rfl⟩
    case round =>
      obtain ⟨k, hk, rfl, rfl⟩ := hrel
      by_cases hlt : k < l.length
      · have hcell := hc k hlt
        have hN : fh (l.take k) < 72057594037927936 := by
          have h1 := fh_lt (l.take k)
          have h2 : (l.take k).length ≤ 7 := by simp; omega
          have h3 := Nat.pow_le_pow_right (show 0 < 256 by decide) h2
          have h4 : (256 : Nat) ^ 7 = 72057594037927936 := by decide
          omega
        have HS : Hid (fh (l.take (k + 1)) = fh (l.take k) * 256 + l[k].toNat) := fh_take l k hlt
        have hgd : l.getD k 0 = l[k] := by simp [hlt]
        rw [hgd] at hcell
        have hbk : l[k].toNat < 256 := l[k].toNat_lt
        have hor := shl_orw (fh (l.take k)) l[k] hN
        generalize hNN : fh (l.take k) = N at *
        clear hNN hgd
        go_wp2
        go_round
        case rel => exact ⟨k + 1, by omega, by go_num, int_eq (by rw [HS.out]; omega)⟩
        case measure => simp [intOf]; omega
      · have e : l.take k = l := List.take_of_length_le (by omega)
        rw [e]
        go_wp2
        go_ret
        exact ⟨rfl, rfl⟩
#print axioms fh_any

/-! ### readSize -/
theorem and127 : ∀ k : Fin 256, bits .and .u8 (k.val : Int) 127 = ((k.val % 128 : Nat) : Int) := by decide +kernel
def szAt (s : Nat) : Nat := if s = 126 then 4 else if s = 127 then 10 else 2
def szLe (s : Nat) : Nat := if s = 126 then 126 else if s = 127 then 65536 else 0
/-- What the second byte says, and those behind it. -/
def szN (B : List UInt8) : Nat := let s := (B.getD 1 0).toNat % 128; if szAt s = 2 then s else fh ((B.take (szAt s)).drop 2)
/-- Why no size is read (0: it is). -/
def szY (B : List UInt8) : Nat := let s := (B.getD 1 0).toNat % 128; if B.length < szAt s then 1 else if szN B < szLe s ∨ 9223372036854775808 ≤ szN B then 1002 else if 16384 < szN B then 1009 else 0
def szA (B : List UInt8) : Nat := if szY B = 0 then szAt ((B.getD 1 0).toNat % 128) else 0
def szS (B : List UInt8) : Nat := if szY B = 0 then szN B else 0
/-- The last part of readSize: of a number. -/
theorem mid_row (a : Option Addr) (cap E H : Nat) (B : List UInt8) (hle : B.length ≤ cap) (h1 : E < H) (h2 : H ≤ B.length) (hrow : ∃ b off, a = some ⟨b, off, none⟩) :
    ∃ a', (∀ w, (Instr.slice 23 (.slice a B.length cap) (some (.int .i64 (E : Int))) (some (.int .i64 (H : Int))) none).run Tryd.prog w = .ok (.slice a' (H - E) (cap - E)) w) ∧ (∀ w, Row w a B → Row w a' ((B.take H).drop E)) ∧ blk a' = blk a := by
  obtain ⟨b, off, rfl⟩ := hrow
  refine ⟨some ⟨b, off + E, none⟩, fun w => slice_mid b off B.length cap E H _ _ w rfl rfl (by omega) (by omega) (by omega), fun w hR => ?_, rfl⟩
  exact (hR.take H).drop E
#print axioms mid_row

/-- What the number says: (size, place, why). -/
def numY (N least : Nat) : Nat := if N < least ∨ 9223372036854775808 ≤ N then 1002 else if 16384 < N then 1009 else 0

set_option maxHeartbeats 2000000 in
theorem rs_any (a : Option Addr) (cap : Nat) (B : List UInt8) (w : World) (hB : Bs w a cap B) (h2 : 2 ≤ B.length) :
    Calls Tryd.prog 32 #[.slice a B.length cap] w fun e w' => e = .returned (.tuple #[.int .i64 (szS B : Nat), .int .i64 (szA B : Nat), .int .i64 (szY B : Nat)]) ∧ w' = w := by
  obtain ⟨b, off, rfl, hc⟩ := hB.row (by intro e; subst e; simp at h2)
  have hle := hB.le
  have hmost := hB.most
  unfold maxLen at hmost
  have c1 := hc 1 (by omega)
  obtain ⟨y, hyy⟩ : ∃ y, B.getD 1 0 = y := ⟨_, rfl⟩
  rw [hyy] at c1
  obtain ⟨s, hs⟩ : ∃ s, s = y.toNat % 128 := ⟨_, rfl⟩
  have hs128 : s < 128 := by rw [hs]; omega
  have ha : bits .and .u8 (y.toNat : Int) 127 = (s : Int) := by rw [hs]; exact and127 ⟨y.toNat, y.toNat_lt⟩
  have HS := hide hs
  have hlen2 : ¬ (B.length : Int) < 2 := by omega
  clear hs hc
  by_cases e6 : s = 126
  · subst e6
    have ha' : bits .and .u8 (y.toNat : Int) 127 = 126 := ha
    have hat : szAt 126 = 4 := rfl
    clear ha
    by_cases h4 : B.length < 4
    · have h4' : (B.length : Int) < 4 := by omega
      have HY : Hid (szY B = 1) := by show _ = _; unfold szY; rw [hyy, ← unhide HS]; simp only [hat]; rw [if_pos h4]
      have HA : Hid (szA B = 0 ∧ szS B = 0) := by show _ ∧ _; unfold szA szS; rw [unhide HY]; exact ⟨rfl, rfl⟩
      clear h4 hyy
      go_enter Tryd.func32, Tryd.ntmps32
      go_wp2
      go_ret3
      exact ⟨by rw [(unhide HA).1, (unhide HA).2, unhide HY]; rfl, rfl⟩
    · have h4' : ¬ (B.length : Int) < 4 := by omega
      obtain ⟨a', hsl, hrw, -⟩ := mid_row (some ⟨b, off, none⟩) cap 2 4 B hle (by omega) (by omega) ⟨b, off, rfl⟩
      have hsl' : (Instr.slice 23 (.slice (some ⟨b, off, none⟩) B.length cap) (some (.int .i64 2)) (some (.int .i64 4)) none).run Tryd.prog w = .ok (.slice a' (4 - 2) (cap - 2)) w := hsl w
      have HRW := hide (hrw w hB.row)
      obtain ⟨N, hN⟩ : ∃ N, N = fh ((B.take 4).drop 2) := ⟨_, rfl⟩
      have HSN : Hid (szN B = N) := by show _ = _; unfold szN; rw [hyy, ← unhide HS]; simp only [hat]; rw [if_neg (by omega)]; exact hN.symm
      have HYN : Hid (szY B = numY N 126) := by show _ = _; unfold szY; rw [hyy, ← unhide HS, unhide HSN]; simp only [hat]; rw [if_neg h4]; rfl
      have hN2 : N < 65536 := by
        have h := fh_lt ((B.take 4).drop 2)
        rw [← hN, show ((B.take 4).drop 2).length = 2 by simp; omega] at h
        simpa using h
      have HNN := hide hN
      clear hN h4 hsl hrw
      go_enter Tryd.func32, Tryd.ntmps32
      go_wp2_with fail
      refine (fh_any a' 2 (cap - 2) ((B.take 4).drop 2) w (unhide HRW) (by simp; omega) (by simp; omega)).mono ?_
      rintro e w1 ⟨rfl, rfl⟩
      rw [← unhide HNN]
      clear HNN HRW
      by_cases n1 : N < 126
      · have n1d : decide ((N : Int) < 126) = true := decide_eq_true (by omega)
        have HY : Hid (szY B = 1002) := by show _ = _; rw [unhide HYN]; unfold numY; rw [if_pos (by omega)]
        have HA : Hid (szA B = 0 ∧ szS B = 0) := by show _ ∧ _; unfold szA szS; rw [unhide HY]; exact ⟨rfl, rfl⟩
        clear HYN HSN hyy
        go_wp2
        go_ret3
        exact ⟨by rw [(unhide HA).1, (unhide HA).2, unhide HY]; rfl, rfl⟩
      · have n1d : decide ((N : Int) < 126) = false := decide_eq_false (by omega)
        have n2d : decide ((9223372036854775808 : Int) ≤ (N : Int)) = false := decide_eq_false (by omega)
        by_cases n3 : 16384 < N
        · have n3d : decide ((16384 : Int) < (N : Int)) = true := decide_eq_true (by omega)
          have HY : Hid (szY B = 1009) := by show _ = _; rw [unhide HYN]; unfold numY; rw [if_neg (by omega), if_pos (by omega)]
          have HA : Hid (szA B = 0 ∧ szS B = 0) := by show _ ∧ _; unfold szA szS; rw [unhide HY]; exact ⟨rfl, rfl⟩
          clear HYN HSN hyy
          go_wp2
          go_ret3
          exact ⟨by rw [(unhide HA).1, (unhide HA).2, unhide HY]; rfl, rfl⟩
        · have n3d : decide ((16384 : Int) < (N : Int)) = false := decide_eq_false (by omega)
          have HY : Hid (szY B = 0) := by show _ = _; rw [unhide HYN]; unfold numY; rw [if_neg (by omega), if_neg (by omega)]
          have HA : Hid (szA B = 4 ∧ szS B = N) := by show _ ∧ _; unfold szA szS; rw [unhide HY, hyy, ← unhide HS, unhide HSN]; exact ⟨rfl, rfl⟩
          clear HYN HSN hyy
          go_wp2
          go_ret3
          exact ⟨by rw [(unhide HA).1, (unhide HA).2, unhide HY]; rfl, rfl⟩
  · by_cases e7 : s = 127
    · subst e7
      have ha' : bits .and .u8 (y.toNat : Int) 127 = 127 := ha
      have hat : szAt 127 = 10 := rfl
      clear ha
      by_cases h4 : B.length < 10
      · have h4' : (B.length : Int) < 10 := by omega
        have HY : Hid (szY B = 1) := by show _ = _; unfold szY; rw [hyy, ← unhide HS]; simp only [hat]; rw [if_pos h4]
        have HA : Hid (szA B = 0 ∧ szS B = 0) := by show _ ∧ _; unfold szA szS; rw [unhide HY]; exact ⟨rfl, rfl⟩
        clear h4 hyy
        go_enter Tryd.func32, Tryd.ntmps32
        go_wp2
        go_ret3
        exact ⟨by rw [(unhide HA).1, (unhide HA).2, unhide HY]; rfl, rfl⟩
      · have h4' : ¬ (B.length : Int) < 10 := by omega
        obtain ⟨a', hsl, hrw, -⟩ := mid_row (some ⟨b, off, none⟩) cap 2 10 B hle (by omega) (by omega) ⟨b, off, rfl⟩
        have hsl' : (Instr.slice 23 (.slice (some ⟨b, off, none⟩) B.length cap) (some (.int .i64 2)) (some (.int .i64 10)) none).run Tryd.prog w = .ok (.slice a' (10 - 2) (cap - 2)) w := hsl w
        have HRW := hide (hrw w hB.row)
        obtain ⟨N, hN⟩ : ∃ N, N = fh ((B.take 10).drop 2) := ⟨_, rfl⟩
        have HSN : Hid (szN B = N) := by show _ = _; unfold szN; rw [hyy, ← unhide HS]; simp only [hat]; rw [if_neg (by omega)]; exact hN.symm
        have HYN : Hid (szY B = numY N 65536) := by show _ = _; unfold szY; rw [hyy, ← unhide HS, unhide HSN]; simp only [hat]; rw [if_neg h4]; rfl
        have hN2 : N < 18446744073709551616 := by
          have h := fh_lt ((B.take 10).drop 2)
          rw [← hN, show ((B.take 10).drop 2).length = 8 by simp; omega] at h
          simpa using h
        have HNN := hide hN
        clear hN h4 hsl hrw
        go_enter Tryd.func32, Tryd.ntmps32
        go_wp2_with fail
        refine (fh_any a' 8 (cap - 2) ((B.take 10).drop 2) w (unhide HRW) (by simp; omega) (by simp; omega)).mono ?_
        rintro e w1 ⟨rfl, rfl⟩
        rw [← unhide HNN]
        clear HNN HRW
        by_cases n1 : N < 65536
        · have n1d : decide ((N : Int) < 65536) = true := decide_eq_true (by omega)
          have HY : Hid (szY B = 1002) := by show _ = _; rw [unhide HYN]; unfold numY; rw [if_pos (by omega)]
          have HA : Hid (szA B = 0 ∧ szS B = 0) := by show _ ∧ _; unfold szA szS; rw [unhide HY]; exact ⟨rfl, rfl⟩
          clear HYN HSN hyy
          go_wp2
          go_ret3
          exact ⟨by rw [(unhide HA).1, (unhide HA).2, unhide HY]; rfl, rfl⟩
        · have n1d : decide ((N : Int) < 65536) = false := decide_eq_false (by omega)
          by_cases n2 : 9223372036854775808 ≤ N
          · have n2d : decide ((9223372036854775808 : Int) ≤ (N : Int)) = true := decide_eq_true (by omega)
            have HY : Hid (szY B = 1002) := by show _ = _; rw [unhide HYN]; unfold numY; rw [if_pos (by omega)]
            have HA : Hid (szA B = 0 ∧ szS B = 0) := by show _ ∧ _; unfold szA szS; rw [unhide HY]; exact ⟨rfl, rfl⟩
            clear HYN HSN hyy
            go_wp2
            go_ret3
            exact ⟨by rw [(unhide HA).1, (unhide HA).2, unhide HY]; rfl, rfl⟩
          · have n2d : decide ((9223372036854775808 : Int) ≤ (N : Int)) = false := decide_eq_false (by omega)
            have n3d : decide ((16384 : Int) < (N : Int)) = true := decide_eq_true (by omega)
            have HY : Hid (szY B = 1009) := by show _ = _; rw [unhide HYN]; unfold numY; rw [if_neg (by omega), if_pos (by omega)]
            have HA : Hid (szA B = 0 ∧ szS B = 0) := by show _ ∧ _; unfold szA szS; rw [unhide HY]; exact ⟨rfl, rfl⟩
            clear HYN HSN hyy
            go_wp2
            go_ret3
            exact ⟨by rw [(unhide HA).1, (unhide HA).2, unhide HY]; rfl, rfl⟩
    · have hat : szAt s = 2 := by unfold szAt; rw [if_neg e6, if_neg e7]
      have hls : szLe s = 0 := by unfold szLe; rw [if_neg e6, if_neg e7]
      have b6 : ((s : Int) == 126) = false := by simp; omega
      have b7 : ((s : Int) == 127) = false := by simp; omega
      have HSN : Hid (szN B = s) := by show _ = _; unfold szN; rw [hyy, ← unhide HS]; simp only [hat]; rfl
      have HY : Hid (szY B = 0) := by show _ = _; unfold szY; rw [hyy, ← unhide HS, unhide HSN]; simp only [hat, hls]; rw [if_neg (by omega), if_neg (by omega), if_neg (by omega)]
      have HA : Hid (szA B = 2 ∧ szS B = s) := by show _ ∧ _; unfold szA szS; rw [unhide HY, hyy, ← unhide HS, unhide HSN]; exact ⟨hat, rfl⟩
      clear HSN hyy e6 e7 hat hls
      go_enter Tryd.func32, Tryd.ntmps32
      go_wp2
      go_ret3
      exact ⟨by rw [(unhide HA).1, (unhide HA).2, unhide HY]; rfl, rfl⟩
#print axioms rs_any
end Go.Proofs.YtegbcjfceooflaaDoor
end
