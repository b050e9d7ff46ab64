/-
  wsock: a mask over bytes (model), THE WALK of masked.
-/
import Derived.Test.YtiiafkjdeoabaaaDoorByt
import Derived.Test.YtiiafkjdeoabaaaDoorOwn2
import Derived.Test.YtiiafkjdeoabaaaDoorSlcX
set_option linter.unusedVariables false
set_option maxRecDepth 1000000
namespace Go.Proofs.YtiiafkjdeoabaaaDoor
open Go.RowKit

/-- The first k bytes under a mask of four. -/
def pm (m l : List UInt8) (k : Nat) : List UInt8 := l.mapIdx (fun i c => if i < k then c ^^^ m.getD (i % 4) 0 else c)
def xm (m l : List UInt8) : List UInt8 := if m = [] then l else pm m l l.length
theorem pm_length (m l : List UInt8) (k : Nat) : (pm m l k).length = l.length := by simp [pm]
theorem pm_zero (m l : List UInt8) : pm m l 0 = l := by
  apply List.ext_getElem?
  intro i
  simp [pm, List.getElem?_mapIdx]
theorem pm_get (m l : List UInt8) (k i : Nat) (h : i < l.length) : (pm m l k).getD i 0 = if i < k then l.getD i 0 ^^^ m.getD (i % 4) 0 else l.getD i 0 := by
  simp only [List.getD_eq_getElem?_getD, pm, List.getElem?_mapIdx, List.getElem?_eq_getElem h]
  simp
theorem pm_succ (m l : List UInt8) (k : Nat) (h : k < l.length) : (pm m l k).set k (l.getD k 0 ^^^ m.getD (k % 4) 0) = pm m l (k + 1) := by
  apply List.ext_getElem?
  intro i
  by_cases hi : i < l.length
  · rw [List.getElem?_set]
    by_cases hk : k = i
    · subst hk
      rw [if_pos rfl, if_pos (by rw [pm_length]; exact h)]
      simp [pm, h]
    · rw [if_neg hk]
      simp only [pm, List.getElem?_mapIdx, List.getElem?_eq_getElem hi, Option.map_some]
      congr 1
      have : (i < k) ↔ (i < k + 1) := by omega
      simp [this]
  · rw [List.getElem?_eq_none (by simp [pm_length]; omega), List.getElem?_eq_none (by simp [pm_length]; omega)]
theorem u8xw (a b : UInt8) : bits .xor .u8 (a.toNat : Int) (b.toNat : Int) = ((a ^^^ b).toNat : Int) := by
  rw [u8_xor_nat _ _ a.toNat_lt b.toNat_lt, UInt8.toNat_xor]
theorem own_storedw {w : World} {base g cap : Nat} {l : List UInt8} (h : OwnB w base (some ⟨g, 0, none⟩) cap l) (j : Nat) (c : UInt8) : OwnB (w.setCell ⟨g, j, none⟩ (.int .u8 (c.toNat : Int))) base (some ⟨g, 0, none⟩) cap (l.set j c) := by
  have := World.ownsRow.stored h j (.int .u8 (c.toNat : Int))
  unfold OwnB
  rw [List.length_set]
  have e : bs (l.set j c) = (bs l).set j (.int .u8 (c.toNat : Int)) := by simp [bs, List.map_set]
  rw [e]
  exact this.1

set_option maxHeartbeats 4000000 in
theorem wmask_any (a : Option Addr) (ca : Nat) (l : List UInt8) (b : Option Addr) (cb : Nat) (m : List UInt8) (w : World) (hA : Bs w a ca l) (hM : Bs w b cb m) (hl : l.length ≤ 1000000) (hm : m = [] ∨ m.length = 4) :
    Calls Tryd.prog 14 #[.slice a l.length ca, .slice b m.length cb] w fun e w' => ∃ a' c' r, e = .returned (.slice a' r.length c') ∧ Hid (r = xm m l) ∧ Hid (OwnB w' w.heap.size a' c' r) ∧ Hid (Below w.heap.size w w') := by
  have HA := hide hA
  have HM := hide hM
  clear hA hM
  go_enter Tryd.func14, Tryd.ntmps14
  go_wp2_with fail
  refine (bclone_any a l.length ca l w HA.out rfl (by omega)).mono ?_
  rintro e w2 ⟨y, cy, r, rfl, hr, ho, hb2⟩
  obtain rfl : r = l := hr.out
  rcases hm with rfl | hm
  · have HX : Hid (r = xm [] r) := by show _ = _; simp [xm]
    have HO := hide ho
    have HB := hide hb2
    clear ho hb2 hr
    simp only [List.length_nil]
    go_wp2
    go_ret
    exact ⟨y, cy, r, rfl, HX, HO, HB⟩
  · have HXM : Hid (xm m r = pm m r r.length) := by show _ = _; unfold xm; rw [if_neg (by intro e; rw [e] at hm; simp at hm)]
    have HO := hide ho
    have HB := hide hb2
    have hm0 : decide ((0 : Int) < (m.length : Int)) = true := decide_eq_true (by omega)
    clear ho hb2 hr
    go_wp2
    go_loopw [14] (fun v wr => ∃ (k : Nat), k ≤ r.length ∧ v = .int .i64 (k : Int) ∧ Hid (OwnB wr w.heap.size y cy (pm m r k)) ∧ Hid (Below w.heap.size w wr)) (fun v _ => r.length - (intOf v).toNat)
    case atStart => exact ⟨0, Nat.zero_le _, rfl, (by show OwnB _ _ _ _ _; rw [pm_zero]; exact HO.out), HB⟩
    case round =>
      clear HO HB
      obtain ⟨k, hk, rfl, ho, hb⟩ := hrel
      by_cases hlt : k < r.length
      · obtain ⟨gy, rfl, hgy1, hgy2, hcy, hfy⟩ := ho.out.some (by rw [pm_length]; omega)
        have c0 := hcy k (by rw [pm_length]; exact hlt)
        rw [pm_get m r k k hlt, if_neg (by omega)] at c0
        have f0 := hfy k
        obtain ⟨bm, om, rfl, hcm⟩ := (HM.out.row.below hb.out (Nat.le_refl _)) (by intro e; rw [e] at hm; simp at hm)
        obtain ⟨q, hq⟩ : ∃ q, q = k % 4 := ⟨_, rfl⟩
        have hq4 : q < 4 := by omega
        have hq1 : (k : Int).tmod 4 = (q : Int) := by rw [hq]; rfl
        have hq2 : (k : Int) % 4 = (q : Int) := by rw [hq]; simp
        have c1 := hcm q (by omega)
        have hk2 : (k : Int) < (r.length : Int) := by omega
        have hqm : (q : Int) < (m.length : Int) := by omega
        have HST := hide (own_storedw ho.out k (r.getD k 0 ^^^ m.getD q 0))
        rw [hq, pm_succ m r k hlt, ← hq] at HST
        have HBB : Hid (Below w.heap.size w (wr.setCell ⟨gy, k, none⟩ (.int .u8 ((r.getD k 0 ^^^ m.getD q 0).toNat : Int)))) := hb.out.grown (grownBy_setCell wr _ _) hb.out.size (fun j hj => by rw [← Option.some.inj hj]; exact hgy1)
        have hx := u8xw (r.getD k 0) (m.getD q 0)
        generalize r.getD k 0 = v1 at *
        generalize m.getD q 0 = v2 at *
        generalize v1 ^^^ v2 = v3 at *
        clear hq hcy hfy hcm ho hb
        have hqm4 : (q : Int) < 4 := by omega
        go_wp2
        go_region
        all_goals
          go_wp2
          go_roundw
          case rel => exact ⟨k + 1, by omega, by go_num, HST, HBB.out.drew⟩
          case measure => simp [intOf]; omega
      · obtain rfl : k = r.length := by omega
        have hll : (pm m r r.length).length = r.length := pm_length m r _
        have HLL := hide hll
        clear hll
        go_wp2
        go_ret
        exact ⟨y, cy, pm m r r.length, by rw [HLL.out]; rfl, HXM.out.symm, ho, hb⟩
#print axioms wmask_any
end Go.Proofs.YtiiafkjdeoabaaaDoor
