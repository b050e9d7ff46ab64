/-
  authtok: THE WALK of the statements' secrets.
-/
import Derived.Test.YthliodpihbbjfaaDoorAutS
set_option linter.unusedVariables false
set_option maxRecDepth 1000000
namespace Go.Proofs.YthliodpihbbjfaaDoor
open Go.RowKit

/-- The row one secret longer. -/
theorem apt_snoc {v w2 w5 : World} {base : Nat} {a : Option Addr} {cap : Nat} {l : List Se} (hO : OwnE v base a cap l) (hA : Apt v base a l) (hb : Below v.heap.size v w2) (o : Obj)
    {s : Sec} {y : Option Addr} {cy : Nat} (hy : OwnB w2 v.heap.size y cy s.2) {g cap' : Nat} (hg : (w2.alloc o).grownBy w5 (blk a)) (hl : blk a = some g ∨ g = (w2.alloc o).heap.size) (hbs : base ≤ v.heap.size) :
    Apt w5 base (some ⟨g, 0, none⟩) (l ++ [(s, y, cy)]) := by
  have hal : ∀ k, blk a = some k → k < v.heap.size := fun k hk => (hO.lt k hk).2
  have hs2 := hb.size
  have hsz : (w2.alloc o).heap.size = w2.heap.size + 1 := by simp
  intro t ht
  rcases List.mem_append.1 ht with ht | ht
  · obtain ⟨h1, h2⟩ := hA t ht
    have h3 : OwnB (w2.alloc o) base t.2.1 t.2.2 t.1.2 := (h1.below hb (Nat.le_refl _)).alloc o
    have hne : blk t.2.1 = none ∨ blk t.2.1 ≠ blk a := by
      cases hk : blk t.2.1 with
      | none => exact .inl rfl
      | some k => exact .inr (fun e => h2 k hk e.symm)
    refine ⟨h3.kept hg hne, fun k hk e => ?_⟩
    obtain rfl : g = k := by simpa [blk] using e
    rcases hl with hl | hl
    · exact h2 g hk hl
    · have := (h1.lt g hk).2
      omega
  · obtain rfl := List.mem_singleton.1 ht
    have h3 : OwnB (w2.alloc o) v.heap.size y cy s.2 := hy.alloc o
    have hne : blk y = none ∨ blk y ≠ blk a := by
      cases hk : blk y with
      | none => exact .inl rfl
      | some k =>
        right
        intro e
        have := hal k e.symm
        have := (hy.lt k hk).1
        omega
    refine ⟨(h3.kept hg hne).base hbs, fun k hk e => ?_⟩
    obtain rfl : g = k := by simpa [blk] using e
    rcases hl with hl | hl
    · have := hal g hl
      have := (hy.lt g hk).1
      omega
    · have := (hy.lt g hk).2
      omega

set_option maxHeartbeats 8000000 in
theorem secrets_any (p : Option Addr) (cp : Nat) (L : List Sec) (w : World) (h : SecR w p L) (hl : L.length ≤ maxLen) :
    Calls Tryd.prog 9 #[.slice p L.length cp] w fun e w' => Hid (Below w.heap.size w w') ∧ (e = .returned (.tuple #[.slice none 0 0, .bool false]) ∨ ∃ a cap, e = .returned (.tuple #[.slice a L.length cap, .bool true]) ∧ Hid (SecR w' a L) ∧ L.length ≤ cap ∧ cap ≤ maxLen ∧ L.length ≤ 21) := by
  have HS := hide h
  clear h
  go_enter Tryd.func9, Tryd.ntmps9
  go_wp2
  go_loopw [4, 9] (fun vo v wr => ∃ (i : Nat) (a : Option Addr) (cap : Nat) (r : List Se), i ≤ L.length ∧ i ≤ 21 ∧ v = .int .i64 (i : Int) ∧ vo = .slice a i cap ∧ Hid (i = r.length) ∧ Hid (r.map (·.1) = L.take i) ∧ Hid (OwnE wr w.heap.size a cap r) ∧ Hid (Apt wr w.heap.size a r) ∧ Hid (Below w.heap.size w wr)) (fun _ v _ => L.length - (intOf v).toNat)
  case atStart => exact ⟨0, none, 0, [], Nat.zero_le _, by omega, rfl, rfl, rfl, rfl, OwnE.nil _ _, (fun t ht => by cases ht), Below.refl _ _⟩
  case round =>
    obtain ⟨i, a, cap, r, hi, hi21, rfl, rfl, hr, hrm, hO, hA, hb⟩ := hrel
    by_cases hlt : i < L.length
    · obtain ⟨s, hs⟩ : ∃ s, L[i]? = some s := ⟨_, List.getElem?_eq_getElem hlt⟩
      obtain ⟨b, off, x, cx, rfl, k0, k1, hB, hbl⟩ := (HS.out.below hb.out (Nat.le_refl _)).at hs
      have hbm := Nat.le_trans hB.le hB.most
      unfold maxLen at hbm
      have HSS := hide hs
      have HBB := hide hB
      obtain ⟨id, bt⟩ := s
      simp only at k0 k1 hbm
      have hi2 : (i : Int) < (L.length : Int) := by omega
      clear hs hB
      by_cases q1 : 20 < i
      · have d1 : decide ((20 : Int) < (i : Int)) = true := decide_eq_true (by omega)
        go_wp2
        go_ret2
        exact ⟨hb.out.alloc hb.out.size _, .inl rfl⟩
      have d1 : decide ((20 : Int) < (i : Int)) = false := decide_eq_false (by omega)
      by_cases q2 : 65536 < bt.length
      · have d2 : decide ((65536 : Int) < (bt.length : Int)) = true := decide_eq_true (by omega)
        go_wp2
        go_ret2
        exact ⟨hb.out.alloc hb.out.size _, .inl rfl⟩
      have d2 : decide ((65536 : Int) < (bt.length : Int)) = false := decide_eq_false (by omega)
      go_wp2
      have HZ : Hid ((wr.alloc (.cells #[.int .i64 id, .slice x bt.length cx] 52)).cell? ⟨wr.heap.size, 0, none⟩ = some (.int .i64 id) ∧ (wr.alloc (.cells #[.int .i64 id, .slice x bt.length cx] 52)).cell? ⟨wr.heap.size, 1, none⟩ = some (.slice x bt.length cx)) := by constructor <;> simp
      have HBv : Hid (Below w.heap.size w (wr.alloc (.cells #[.int .i64 id, .slice x bt.length cx] 52))) := hb.out.alloc hb.out.size _
      have HBx : Hid (Below wr.heap.size wr (wr.alloc (.cells #[.int .i64 id, .slice x bt.length cx] 52))) := (Below.refl _ _).alloc (Nat.le_refl _) _
      have HOv := hide (hO.out.below HBx.out (Nat.le_refl _))
      have HAv := hide (hA.out.below HBx.out (Nat.le_refl _))
      have HBs := hide (HBB.out.below HBx.out (Nat.le_refl _))
      clear HBx hO hA hb k0 k1 HBB hbl
      generalize wr.alloc (.cells #[.int .i64 id, .slice x bt.length cx] 52) = v at *
      generalize wr.heap.size = Z at *
      obtain ⟨z0, z1⟩ := HZ.out
      have hZ : Z < v.heap.size := World.block_lt_of_cell? v _ z0
      have hwv := HBv.out.size
      have HBd : Hid (Bs v.drew x cx bt) := HBs.out.below (Below.refl _ _).drew (Nat.le_refl _)
      have hr20 : r.length ≤ 21 := by rw [← hr.out]; exact hi21
      go_region_law (first
        | (refine stp_appe _ rfl _ _ rfl w.heap.size a cap r i rfl hr.out (HO2.out.alloc _) w2.heap.size 1 ((id, bt), y, cy) rfl (heap_alloc_new w2 _) (by omega) (by simp; omega) ?_; intro g5 c5 w5 ho5 hg5 hl5)
        | (go_simp; go_at_call 25; refine (sclone_big x bt.length cx bt _ HBd.out rfl (by omega)).mono ?_; rintro e w2 ⟨y, cy, r2, rfl, hr2, ho2, hb2⟩; obtain rfl : bt = r2 := hr2.out.symm; have HY := hide ho2; have HB2 : Hid (Below v.heap.size v w2) := Below.trans ((Below.refl _ _).drew) hb2; have HO2 := hide (HOv.out.below HB2.out (Nat.le_refl _)); have z02 : w2.cell? ⟨Z, 0, none⟩ = some (.int .i64 id) := (HB2.out.cell hZ).trans z0; have hs2 := HB2.out.size; clear ho2 hb2 hr2))
      all_goals
        have HA5 := hide (apt_snoc (cap' := c5) (s := (id, bt)) HOv.out HAv.out HB2.out _ HY.out hg5.out hl5.out hwv)
        have HB5 : Hid (Below w.heap.size w w5) := ((HBv.out.trans (HB2.out.mono hwv)).alloc (by have := HB2.out.size; omega) _).grown hg5.out (by simp; omega) (fun k hk => (HO2.out.lt k hk).1)
        have HR5 : Hid ((r ++ [((id, bt), y, cy)]).map (·.1) = L.take (i + 1)) := by show _ = _; rw [List.map_append, hrm.out, List.take_add_one, HSS.out]; rfl
        have HL5 : Hid (i + 1 = (r ++ [((id, bt), y, cy)]).length) := by show _ = _; rw [List.length_append, ← hr.out]; rfl
        clear hg5 hl5 HY HO2 HB2 HAv HOv HBv HBs HBd z0 z1 HSS hrm hr
        go_wp2
        go_roundw
        case rel => exact ⟨i + 1, some ⟨g5, 0, none⟩, c5, r ++ [((id, bt), y, cy)], by omega, by omega, by go_num, rfl, HL5, HR5, ho5, HA5, HB5⟩
        case measure => simp [intOf]; omega
    · obtain rfl : i = L.length := by omega
      rw [List.take_length] at hrm
      have HR : Hid (SecR wr a L) := by
        have := hO.out.secR hA.out (fun t ht => HS.out.int t.1 (by rw [← hrm.out]; exact List.mem_map_of_mem ht))
        rw [hrm.out] at this
        exact this
      have hcap : L.length ≤ cap ∧ cap ≤ maxLen := by
        rcases hO.out.cases with ⟨_, h2, h3⟩ | ⟨_, _, _, _, _, h4, h5, _⟩
        · rw [hr.out, h3, h2]; exact ⟨Nat.le_refl _, by unfold maxLen; omega⟩
        · rw [hr.out]; exact ⟨h4, h5⟩
      have HCP := hide hcap
      clear hcap
      go_wp2
      go_ret2
      exact ⟨hb, .inr ⟨a, cap, rfl, HR, HCP.out.1, HCP.out.2, hi21⟩⟩
#print axioms secrets_any
end Go.Proofs.YthliodpihbbjfaaDoor
