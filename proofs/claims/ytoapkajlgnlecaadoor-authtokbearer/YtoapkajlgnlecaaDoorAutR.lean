/-
  authtok: THE WALK of Read.
-/
import Derived.Test.YtoapkajlgnlecaaDoorAutH
set_option linter.unusedVariables false
set_option maxRecDepth 1000000
namespace Go.Proofs.YtoapkajlgnlecaaDoor
open Go.RowKit

theorem Clz.facts {w : World} {R : Nat} (h : Clz w R) : (w.cell? ⟨R, 0, none⟩ = some (.string ⟨#[]⟩) ∧ w.cell? ⟨R, 1, none⟩ = some (.string ⟨#[]⟩) ∧ w.cell? ⟨R, 2, none⟩ = some (.int .i64 0)) ∧ w.frozen? ⟨R, 0, none⟩ = false ∧ w.frozen? ⟨R, 1, none⟩ = false ∧ w.frozen? ⟨R, 2, none⟩ = false :=
  ⟨⟨by rw [cell_of_row w R 0 _ _ _ h]; rfl, by rw [cell_of_row w R 1 _ _ _ h]; rfl, by rw [cell_of_row w R 2 _ _ _ h]; rfl⟩, frozen_of_row w R 0 _ _ h, frozen_of_row w R 1 _ _ h, frozen_of_row w R 2 _ _ h⟩
theorem below_set3 {B : Nat} {w0 v : World} {R : Nat} (h : Below B w0 v) (hB : B ≤ w0.heap.size) (hR : B ≤ R) (x y z : Value) : Below B w0 (((v.setCell ⟨R, 0, none⟩ x).setCell ⟨R, 1, none⟩ y).setCell ⟨R, 2, none⟩ z) := by
  have st : ∀ (v : World) (p : Addr) (x : Value), Below B w0 v → B ≤ p.block → Below B w0 (v.setCell p x) := fun v p x h hp => h.grown (grownBy_set v p x) (Nat.le_trans hB h.size) (fun k hk => by rw [← Option.some.inj hk]; exact hp)
  exact st _ _ _ (st _ _ _ (st _ _ _ h hR) hR) hR

set_option maxHeartbeats 8000000 in
theorem read_any (p : Option Addr) (cp : Nat) (L : List Sec) (now : Int) (s : List UInt8) (w : World) (h : SecR w p L) (hT : Tb w) (hl : L.length ≤ 140737488355328) (hcp : L.length ≤ cp) (hcm : cp ≤ maxLen) (hsl : s.length ≤ 100000) :
    Calls Tryd.prog 9 #[.slice p L.length cp, .int .i64 now, .string (str s)] w fun e w' => ∃ (E : Int) (c g : List UInt8) (u : Int), e = .returned (.tuple #[.agg #[.string (str c), .string (str g), .int .i64 u], .int .i64 E]) ∧ Hid ((E, (⟨c, g, u⟩ : Cl)) = rdT L now s) ∧ Hid (Below w.heap.size w w') := by
  have HS := hide h
  have HT := hide hT
  clear h hT
  go_enter Tryd.func9, Tryd.ntmps9
  go_wp2_with fail
  have HR1 : Hid (Clz (w.alloc (.cells #[.string ⟨#[]⟩, .string ⟨#[]⟩, .int .i64 0] 33)) w.heap.size) := heap_alloc_new w _
  have HB1 : Hid (Below w.heap.size w (w.alloc (.cells #[.string ⟨#[]⟩, .string ⟨#[]⟩, .int .i64 0] 33))) := (Below.refl _ _).alloc (Nat.le_refl _) _
  generalize w.alloc (.cells #[.string ⟨#[]⟩, .string ⟨#[]⟩, .int .i64 0] 33) = w1 at *
  refine (check_any p cp L L.length w1 rfl (HS.out.below HB1.out (Nat.le_refl _)) hl).mono ?_
  rintro e w2 ⟨rfl, hb2⟩
  have HR2 := hide (HR1.out.below hb2 (Nat.le_refl _))
  have HB2 : Hid (Below w.heap.size w w2) := HB1.out.trans (hb2.mono HB1.out.size)
  clear hb2 HR1 HB1
  cases hck : ckOk L with
  | false =>
    have HM : Hid (((102 : Int), Cl.zero) = rdT L now s) := by show _ = _; unfold rdT; rw [if_pos hck]
    obtain ⟨⟨b0, b1, b2⟩, f0, f1, f2⟩ := HR2.out.facts
    have HB3 := fun x y z => hide (below_set3 HB2.out (Nat.le_refl _) (Nat.le_refl _) x y z)
    go_wp2
    refine bodyPost_ret (v := .tuple #[.agg #[.string ⟨#[]⟩, .string ⟨#[]⟩, .int .i64 0], .int .i64 102]) (by simp [results, Tryd.results9, go_sem, b0, b1, b2]) rfl ⟨102, [], [], 0, rfl, HM, HB3 _ _ _⟩
  | true =>
  have HCK := hide hck
  clear hck
  go_wp2_with fail
  refine (said_any s w2 hsl).mono ?_
  rintro e w3 ⟨id, c, g, u, rfl, HSAY, hb3, hc, hg, hid, hu⟩
  have HR3 := hide (HR2.out.below hb3.out (Nat.le_refl _))
  have HB3 : Hid (Below w.heap.size w w3) := HB2.out.trans (hb3.out.mono HB2.out.size)
  clear hb3 HR2 HB2
  go_wp2_with fail
  have HC4 := hide (ClC.new w3 c g (u : Int))
  have HR4 : Hid (Clz (w3.alloc (.cells #[.string (str c), .string (str g), .int .i64 (u : Int)] 33)) w.heap.size) := HR3.out.below ((Below.refl w3.heap.size w3).alloc (Nat.le_refl _) _) (Nat.le_refl _)
  have HB4 : Hid (Below w.heap.size w (w3.alloc (.cells #[.string (str c), .string (str g), .int .i64 (u : Int)] 33))) := HB3.out.alloc HB3.out.size _
  have HX : Hid (w.heap.size < w3.heap.size) := HR3.out.lt
  generalize w3.alloc (.cells #[.string (str c), .string (str g), .int .i64 (u : Int)] 33) = w4 at *
  generalize w3.heap.size = X at *
  clear HR3 HB3
  refine (signed_any p cp L (id : Int) c g (u : Int) s w4 (HS.out.below HB4.out (Nat.le_refl _)) (HT.out.below HB4.out HT.out.big) hl hcp hcm (by omega) (by omega) (by omega) (by omega) hsl).mono ?_
  rintro e w5 ⟨rfl, hb5⟩
  have HR5 := hide (HR4.out.below hb5.out (Nat.le_refl _))
  have HC5 := hide (HC4.out.below hb5.out (Nat.le_refl _))
  have HB5 : Hid (Below w.heap.size w w5) := HB4.out.trans (hb5.out.mono HB4.out.size)
  clear hb5 HR4 HC4 HB4
  obtain ⟨⟨b0, b1, b2⟩, f0, f1, f2⟩ := HR5.out.facts
  obtain ⟨k0, k1, k2⟩ := HC5.out
  have hne : w.heap.size ≠ X := by have := HX.out; omega
  have HB6 := fun x y z => hide (below_set3 HB5.out (Nat.le_refl _) (Nat.le_refl _) x y z)
  cases hsg : sgn L (id : Int) ⟨c, g, (u : Int)⟩ s with
  | false =>
    have HM : Hid (((100 : Int), Cl.zero) = rdT L now s) := by
      show _ = _
      unfold rdT
      rw [if_neg (by rw [HCK.out]; simp), HSAY.out, if_pos hsg]
    clear hsg
    go_wp2
    refine bodyPost_ret (v := .tuple #[.agg #[.string ⟨#[]⟩, .string ⟨#[]⟩, .int .i64 0], .int .i64 100]) (by simp [results, Tryd.results9, go_sem, b0, b1, b2]) rfl ⟨100, [], [], 0, rfl, HM, HB6 _ _ _⟩
  | true =>
    by_cases hn : (u : Int) ≤ now
    · have HM : Hid (((101 : Int), Cl.zero) = rdT L now s) := by
        show _ = _
        unfold rdT
        rw [if_neg (by rw [HCK.out]; simp), HSAY.out, if_neg (by rw [hsg]; simp), if_pos hn]
      have d1 : decide ((u : Int) ≤ now) = true := decide_eq_true hn
      clear hsg
      go_wp2
      refine bodyPost_ret (v := .tuple #[.agg #[.string ⟨#[]⟩, .string ⟨#[]⟩, .int .i64 0], .int .i64 101]) (by simp [results, Tryd.results9, go_sem, b0, b1, b2]) rfl ⟨101, [], [], 0, rfl, HM, HB6 _ _ _⟩
    · have HM : Hid (((0 : Int), (⟨c, g, (u : Int)⟩ : Cl)) = rdT L now s) := by
        show _ = _
        unfold rdT
        rw [if_neg (by rw [HCK.out]; simp), HSAY.out, if_neg (by rw [hsg]; simp), if_neg hn]
      have d1 : decide ((u : Int) ≤ now) = false := decide_eq_false hn
      clear hsg
      go_wp2
      refine bodyPost_ret (v := .tuple #[.agg #[.string (str c), .string (str g), .int .i64 (u : Int)], .int .i64 0]) (by simp [results, Tryd.results9, go_sem, b0, b1, b2]) rfl ⟨0, c, g, (u : Int), rfl, HM, HB6 _ _ _⟩
#print axioms read_any
end Go.Proofs.YtoapkajlgnlecaaDoor
