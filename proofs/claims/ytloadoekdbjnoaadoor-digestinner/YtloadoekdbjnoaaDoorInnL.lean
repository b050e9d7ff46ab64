/-
  THE WALK of DigestInner's loop: a key's two blocks.
-/
import Derived.Test.YtloadoekdbjnoaaDoorMacW
import Derived.Test.YtloadoekdbjnoaaDoorCat
import Derived.Test.YtloadoekdbjnoaaDoorOwn2
import Derived.Deep.RegionWith
set_option linter.unusedVariables false
namespace Go.Proofs.YtloadoekdbjnoaaDoor
open Go.RowKit

/-- The first i bytes of a key's block, masked. -/
def pk (key : List UInt8) (x : UInt8) (i : Nat) : List UInt8 := ((kblk key).take i).map (· ^^^ x)
theorem kblk_get (key : List UInt8) (h : key.length ≤ 64) (i : Nat) (hi : i < 64) : (kblk key).getD i 0 = key.getD i 0 := by
  unfold kblk
  rw [if_neg (by omega)]
  simp only [List.getD_eq_getElem?_getD]
  by_cases h2 : i < key.length
  · rw [List.getElem?_append_left h2]
  · rw [List.getElem?_append_right (by omega), List.getElem?_eq_none (by omega : key.length ≤ i)]
    simp only [noughts, List.drop_replicate, List.getElem?_replicate]
    split <;> rfl
theorem pk_zero (key : List UInt8) (x : UInt8) : pk key x 0 = [] := by simp [pk]
theorem pk_length (key : List UInt8) (h : key.length ≤ 64) (x : UInt8) (i : Nat) (hi : i ≤ 64) : (pk key x i).length = i := by
  simp [pk, kblk_length key]; omega
theorem pk_succ (key : List UInt8) (h : key.length ≤ 64) (x : UInt8) (i : Nat) (hi : i < 64) : pk key x i ++ [key.getD i 0 ^^^ x] = pk key x (i + 1) := by
  unfold pk
  rw [List.take_add_one, List.map_append, ← kblk_get key h i hi]
  have : i < (kblk key).length := by rw [kblk_length key]; exact hi
  simp [this]
theorem pk_all (key : List UInt8) (h : key.length ≤ 64) (x : UInt8) : pk key x 64 = (kblk key).map (· ^^^ x) := by
  unfold pk
  rw [List.take_of_length_le (by rw [kblk_length key]; exact Nat.le_refl _)]

/-- Two rows of one's own, apart. -/
def Two (w : World) (base : Nat) (a1 : Option Addr) (c1 : Nat) (r1 : List UInt8) (a2 : Option Addr) (c2 : Nat) (r2 : List UInt8) : Prop :=
  OwnB w base a1 c1 r1 ∧ OwnB w base a2 c2 r2 ∧ (blk a1 = none ∨ blk a1 ≠ blk a2) ∧ (blk a2 = none ∨ blk a2 ≠ blk a1)
theorem Two.one {w w' : World} {base : Nat} {a1 : Option Addr} {c1 : Nat} {r1 : List UInt8} {a2 : Option Addr} {c2 : Nat} {r2 : List UInt8} (h : Two w base a1 c1 r1 a2 c2 r2)
    {a' : Option Addr} {c' : Nat} {r' : List UInt8} (o : Obj) (ho : OwnB w' base a' c' r') (hg : (w.alloc o).grownBy w' (blk a1)) (hw : a' = a1 ∨ ∀ k, blk a' = some k → w.heap.size + 1 ≤ k) : Two w' base a' c' r' a2 c2 r2 := by
  have h2 : OwnB w' base a2 c2 r2 := (h.2.1.alloc o).kept hg h.2.2.2
  refine ⟨ho, h2, ?_, ?_⟩
  · rcases hw with rfl | hw
    · exact h.2.2.1
    · cases hb : blk a' with
      | none => exact .inl rfl
      | some k =>
        right
        intro e
        have h3 := hw k hb
        have h4 := (h.2.1.lt k e.symm).2
        omega
  · rcases hw with rfl | hw
    · exact h.2.2.2
    · cases hb : blk a2 with
      | none => exact .inl rfl
      | some k =>
        right
        intro e
        have h3 := hw k e.symm
        have h4 := (h.2.1.lt k hb).2
        omega
theorem Two.swap {w : World} {base : Nat} {a1 : Option Addr} {c1 : Nat} {r1 : List UInt8} {a2 : Option Addr} {c2 : Nat} {r2 : List UInt8} (h : Two w base a1 c1 r1 a2 c2 r2) : Two w base a2 c2 r2 a1 c1 r1 := ⟨h.2.1, h.1, h.2.2.2, h.2.2.1⟩


/-- What stays behind the loop. -/
def Inv8 (w : World) (D : Nat) (d : List UInt8) (ao : Option Addr) (co : Nat) (ro : List UInt8) (W : World) : Prop := Below w.heap.size w W ∧ Cel W D 31 (bs d) ∧ w.heap.size ≤ D ∧ Bs W ao co ro
theorem Inv8.next {w W W' : World} {D : Nat} {d : List UInt8} {ao : Option Addr} {co : Nat} {ro : List UInt8} (h : Inv8 w D d ao co ro W) (hb : Below W.heap.size W W') : Inv8 w D d ao co ro W' :=
  ⟨h.1.trans (hb.mono h.1.size), h.2.1.below hb h.2.1.lt, h.2.2.1, h.2.2.2.below hb (Nat.le_refl _)⟩
theorem Inv8.alloc {w W : World} {D : Nat} {d : List UInt8} {ao : Option Addr} {co : Nat} {ro : List UInt8} (h : Hid (Inv8 w D d ao co ro W)) (o : Obj) : Hid (Inv8 w D d ao co ro (W.alloc o)) :=
  h.out.next ((Below.refl _ _).alloc (Nat.le_refl _) o)
theorem Inv8.allocD {w W : World} {D : Nat} {d : List UInt8} {ao : Option Addr} {co : Nat} {ro : List UInt8} (h : Hid (Inv8 w D d ao co ro W.drew)) (o : Obj) : Hid (Inv8 w D d ao co ro (W.alloc o).drew) := Inv8.alloc h o
/-- The block of two slices that is handed to Concat. -/
def Pair (W : World) (V : Nat) (D : Nat) (ao : Option Addr) (co n : Nat) : Prop := W.cell? ⟨V, 0, none⟩ = some (.slice ao n co) ∧ W.cell? ⟨V, 1, none⟩ = some (.slice (some ⟨D, 0, none⟩) 32 32)
theorem Pair.new (W : World) (D : Nat) (ao : Option Addr) (co n : Nat) : Hid (Pair (W.alloc (.cells #[.slice ao n co, .slice (some ⟨D, 0, none⟩) 32 32] 22)) W.heap.size D ao co n) := by
  constructor <;> simp
theorem Pair.newD (W : World) (D : Nat) (ao : Option Addr) (co n : Nat) : Hid (Pair (W.alloc (.cells #[.slice ao n co, .slice (some ⟨D, 0, none⟩) 32 32] 22)).drew W.heap.size D ao co n) := Pair.new W.drew D ao co n
theorem Pair.below {W W' : World} {V D : Nat} {ao : Option Addr} {co n : Nat} (h : Hid (Pair W V D ao co n)) (hb : Hid (Below W.heap.size W W')) : Hid (Pair W' V D ao co n) := by
  have hV : V < W.heap.size := World.block_lt_of_cell? W _ h.out.1
  exact ⟨by rw [hb.out.cell hV]; exact h.out.1, by rw [hb.out.cell hV]; exact h.out.2⟩

set_option maxRecDepth 1000000 in
set_option maxHeartbeats 4000000 in
theorem digestInner_loop (a0 : Option Addr) (cap0 : Nat) (l0 : List UInt8) (a1 : Option Addr) (cap1 : Nat) (l1 : List UInt8) (w : World) (w0 : Bs w a0 cap0 l0) (w1 : Bs w a1 cap1 l1) (h0 : l0.length ≤ 64) (h1 : l1.length ≤ 20000) (hT : Tb w) :
    Calls Tryd.prog 6 #[.slice a0 l0.length cap0, .slice a1 l1.length cap1] w fun e w' => e = .returned (.bool true) ∧ Below w.heap.size w w' := by
  have HT := hide hT
  have H0 := hide w0
  have H1 := hide w1
  have hd1 : decide ((20000 : Int) < (l1.length : Int)) = false := decide_eq_false (by omega)
  have hd0 : decide ((64 : Int) < (l0.length : Int)) = false := decide_eq_false (by omega)
  clear w0 w1 hT
  go_enter Tryd.func6, Tryd.ntmps6
  go_wp2
  go_loopw [5, 6, 19] (fun vi vo v wr => ∃ (i : Nat) (ai : Option Addr) (ci : Nat) (ri : List UInt8) (ao : Option Addr) (co : Nat) (ro : List UInt8), i ≤ 64 ∧ v = .int .i64 (i : Int) ∧ vi = .slice ai ri.length ci ∧ vo = .slice ao ro.length co ∧ Hid (ri = pk l0 54 i) ∧ Hid (ro = pk l0 92 i) ∧ Hid (Two wr w.heap.size ai ci ri ao co ro) ∧ Hid (Below w.heap.size w wr)) (fun _ _ v _ => 64 - (intOf v).toNat)
  case atStart => exact ⟨0, none, 0, [], none, 0, [], Nat.zero_le _, rfl, rfl, rfl, rfl, rfl, ⟨OwnB.nil _ _, OwnB.nil _ _, .inl rfl, .inl rfl⟩, Below.refl _ _⟩
  case round =>
    obtain ⟨i, ai, ci, ri, ao, co, ro, hi, rfl, rfl, rfl, hri, hro, htw, hb⟩ := hrel
    have hli : ri.length ≤ 64 := by rw [hri.out, pk_length l0 h0 54 i hi]; exact hi
    have hlo : ro.length ≤ 64 := by rw [hro.out, pk_length l0 h0 92 i hi]; exact hi
    by_cases hlt : i < 64
    · have HS1 := hide (pk_succ l0 h0 54 i hlt)
      have HS2 := hide (pk_succ l0 h0 92 i hlt)
      obtain ⟨y, hy⟩ : ∃ y, y = l0.getD i 0 := ⟨_, rfl⟩
      rw [← hy] at HS1 HS2
      have x1 := u8x y 54
      have x2 := u8x y 92
      rw [show ((54 : UInt8).toNat : Int) = 54 from rfl] at x1
      rw [show ((92 : UInt8).toNat : Int) = 92 from rfl] at x2
      obtain ⟨z1, hz1⟩ : ∃ z, y ^^^ 54 = z := ⟨_, rfl⟩
      obtain ⟨z2, hz2⟩ : ∃ z, y ^^^ 92 = z := ⟨_, rfl⟩
      rw [hz1] at x1 HS1
      rw [hz2] at x2 HS2
      clear hz1 hz2
      have hsz := hb.out.size
      by_cases hk : i < l0.length
      · have hk2 : (i : Int) < (l0.length : Int) := by omega
        obtain ⟨b0, o0, ea0, hc0⟩ := (H0.out.row.below hb.out (Nat.le_refl _)) (by intro e; subst e; simp at hk)
        subst ea0
        have k0 := hc0 i hk
        rw [← hy] at k0
        clear hc0 hy
        go_wp2_with (at_builtin; refine wp_app2 _ rfl _ _ rfl w.heap.size ai ci ri rfl (htw.out.1.alloc _) (some ⟨wr.heap.size, 0, none⟩) 1 [z1] 1 rfl rfl (row_lit _ _ _ rfl) (fun h => by cases h) ?c1 ?c2 ?_)
        case c1 => first | omega | (simp; omega)
        case c2 => first | omega | (simp; omega)
        intro a2 cap2 r2 w2 hr2 ho2 hg2 hw2
        have HT2 := hide (Two.one htw.out _ ho2 hg2 hw2.out)
        have HB2 := hide (below_grown (hb.out.alloc hb.out.size _) hg2 (Nat.le_refl _) (fun k hk => (htw.out.1.lt k hk).1))
        have HR2 : Hid (r2 = pk l0 54 (i + 1)) := by show _ = _; rw [hr2.out, hri.out]; exact HS1.out
        have hsz2 := HB2.out.size
        clear ho2 hg2 hw2 hr2
        go_wp2_with (at_builtin; refine wp_app2 _ rfl _ _ rfl w.heap.size ao co ro rfl (HT2.out.2.1.alloc _) (some ⟨w2.heap.size, 0, none⟩) 1 [z2] 1 rfl rfl (row_lit _ _ _ rfl) (fun h => by cases h) ?d1 ?d2 ?_)
        case d1 => first | omega | (simp; omega)
        case d2 => first | omega | (simp; omega)
        intro a3 cap3 r3 w3 hr3 ho3 hg3 hw3
        have HT3 := hide (Two.one HT2.out.swap _ ho3 hg3 hw3.out).swap
        have HB3 := hide (below_grown (HB2.out.alloc HB2.out.size _) hg3 (Nat.le_refl _) (fun k hk => (HT2.out.2.1.lt k hk).1))
        have HR3 : Hid (r3 = pk l0 92 (i + 1)) := by show _ = _; rw [hr3.out, hro.out]; exact HS2.out
        clear ho3 hg3 hw3 hr3
        go_wp2
        go_roundw
        case rel => exact ⟨i + 1, a2, cap2, r2, a3, cap3, r3, by omega, by go_num, rfl, rfl, HR2, HR3, HT3, HB3⟩
        case measure => simp [intOf]; omega
      · have hk2 : ¬ (i : Int) < (l0.length : Int) := by omega
        obtain rfl : y = 0 := by rw [hy, List.getD_eq_getElem?_getD, List.getElem?_eq_none (by omega)]; rfl
        clear hy
        rw [show ((0 : UInt8).toNat : Int) = 0 from rfl] at x1 x2
        go_wp2_with (at_builtin; refine wp_app2 _ rfl _ _ rfl w.heap.size ai ci ri rfl (htw.out.1.alloc _) (some ⟨wr.heap.size, 0, none⟩) 1 [z1] 1 rfl rfl (row_lit _ _ _ rfl) (fun h => by cases h) ?c1 ?c2 ?_)
        case c1 => first | omega | (simp; omega)
        case c2 => first | omega | (simp; omega)
        intro a2 cap2 r2 w2 hr2 ho2 hg2 hw2
        have HT2 := hide (Two.one htw.out _ ho2 hg2 hw2.out)
        have HB2 := hide (below_grown (hb.out.alloc hb.out.size _) hg2 (Nat.le_refl _) (fun k hk => (htw.out.1.lt k hk).1))
        have HR2 : Hid (r2 = pk l0 54 (i + 1)) := by show _ = _; rw [hr2.out, hri.out]; exact HS1.out
        have hsz2 := HB2.out.size
        clear ho2 hg2 hw2 hr2
        go_wp2_with (at_builtin; refine wp_app2 _ rfl _ _ rfl w.heap.size ao co ro rfl (HT2.out.2.1.alloc _) (some ⟨w2.heap.size, 0, none⟩) 1 [z2] 1 rfl rfl (row_lit _ _ _ rfl) (fun h => by cases h) ?d1 ?d2 ?_)
        case d1 => first | omega | (simp; omega)
        case d2 => first | omega | (simp; omega)
        intro a3 cap3 r3 w3 hr3 ho3 hg3 hw3
        have HT3 := hide (Two.one HT2.out.swap _ ho3 hg3 hw3.out).swap
        have HB3 := hide (below_grown (HB2.out.alloc HB2.out.size _) hg3 (Nat.le_refl _) (fun k hk => (HT2.out.2.1.lt k hk).1))
        have HR3 : Hid (r3 = pk l0 92 (i + 1)) := by show _ = _; rw [hr3.out, hro.out]; exact HS2.out
        clear ho3 hg3 hw3 hr3
        go_wp2
        go_roundw
        case rel => exact ⟨i + 1, a2, cap2, r2, a3, cap3, r3, by omega, by go_num, rfl, rfl, HR2, HR3, HT3, HB3⟩
        case measure => simp [intOf]; omega
    · obtain rfl : i = 64 := by omega
      rw [pk_all l0 h0 54] at hri
      rw [pk_all l0 h0 92] at hro
      obtain ⟨d, hd⟩ : ∃ d, sha2 (ri ++ l1) = d := ⟨_, rfl⟩
      have hdl : d.length = 32 := by rw [← hd]; exact sha2_length _
      obtain ⟨M, hM⟩ : ∃ M, mac l0 l1 = M := ⟨_, rfl⟩
      have hML : M.length = 32 := by rw [← hM]; exact mac_length _ _
      have hMM : sha2 (ro ++ d) = M := by rw [← hM, ← hd, hri.out, hro.out]; rfl
      have heq := fun w => eq_hash w M hML
      have HDL := hide hdl
      have HD := hide hd
      have HMM := hide hMM
      have HM := hide hM
      have HTW := hide htw.out.2.1
      have HCC : Hid (Calls Tryd.prog 18 #[.slice (some ⟨wr.heap.size, 0, none⟩) 2 2] (wr.alloc (.cells #[.slice ai ri.length ci, .slice a1 l1.length cap1] 22))
          fun e w' => ∃ a' cap' r, e = .returned (.slice a' r.length cap') ∧ Hid (r = ri ++ l1) ∧ Hid (Bs w' a' cap' r) ∧ Hid (Below w.heap.size w w') ∧ Hid (Bs w' ao co ro)) := by
        refine (concat_two wr.heap.size ai ci ri a1 cap1 l1 _ (htw.out.1.toBs.alloc _) ((H1.out.below hb.out (Nat.le_refl _)).alloc _) (by simp) (by simp) (by omega) (by omega)).mono ?_
        rintro e w3 ⟨a3, c3, r, rfl, hr, ho3, hb3⟩
        exact ⟨a3, c3, r, rfl, hr, ho3.toBs, (hb.out.alloc hb.out.size _).trans (hb3.mono (Nat.le_trans hb.out.size (by simp))), (htw.out.2.1.toBs.alloc _).below hb3 (Nat.le_refl _)⟩
      have HC1 : Hid (∀ D W, Hid (Inv8 w D d ao co ro W) → Calls Tryd.prog 16 #[.slice a0 l0.length cap0, .slice a1 l1.length cap1] W fun e W' => e = .returned (.agg (bs M).toArray) ∧ Hid (Inv8 w D d ao co ro W') ∧ Hid (Below W.heap.size W W')) := by
        intro D W h
        have hm := mac_any a0 cap0 l0 a1 cap1 l1 W (H0.out.below h.out.1 (Nat.le_refl _)) (H1.out.below h.out.1 (Nat.le_refl _)) (HT.out.below h.out.1 HT.out.big) (by omega) (by omega)
        rw [HM.out] at hm
        refine hm.mono ?_
        rintro e W' ⟨rfl, hb⟩
        exact ⟨rfl, h.out.next hb, hb⟩
      have HC2 : Hid (∀ D V W, Hid (Inv8 w D d ao co ro W) → Hid (Pair W V D ao co ro.length) → Calls Tryd.prog 18 #[.slice (some ⟨V, 0, none⟩) 2 2] W fun e W' => ∃ a' c' r, e = .returned (.slice a' r.length c') ∧ Hid (r = ro ++ d) ∧ Hid (Bs W' a' c' r) ∧ Hid (Inv8 w D d ao co ro W') ∧ Hid (Below W.heap.size W W')) := by
        intro D V W h hp
        refine (concat_two V ao co ro (some ⟨D, 0, none⟩) 32 d W h.out.2.2.2 ⟨h.out.2.1.row, by rw [HDL.out]; exact Nat.le_refl _, by unfold maxLen; decide, fun h => by cases h⟩ hp.out.1 (by rw [HDL.out]; exact hp.out.2) (by omega) (by rw [HDL.out]; omega)).mono ?_
        rintro e W' ⟨a', c', r, rfl, hr, ho, hb⟩
        exact ⟨a', c', r, rfl, hr, ho.toBs, h.out.next hb, hb⟩
      have HC3 : Hid (∀ D W a' c' r, Hid (r = ro ++ d) → Hid (Bs W a' c' r) → Hid (Inv8 w D d ao co ro W) → Calls Tryd.prog 14 #[.slice a' r.length c'] W fun e W' => e = .returned (.agg (bs M).toArray) ∧ Hid (Inv8 w D d ao co ro W') ∧ Hid (Below W.heap.size W W')) := by
        intro D W a' c' r hr hB h
        have hrl : r.length ≤ 200 := by rw [hr.out, List.length_append, HDL.out]; omega
        have hm := sha2_any a' c' r W hB.out (by omega) (HT.out.below h.out.1 HT.out.big)
        rw [show sha2 r = M by rw [hr.out]; exact HMM.out] at hm
        refine hm.mono ?_
        rintro e W' ⟨rfl, hb⟩
        exact ⟨rfl, h.out.next hb, hb⟩
      have HC4 : Hid (∀ D W, Hid (Inv8 w D d ao co ro W) → Calls Tryd.prog 9 #[] W fun e W' => e = .returned (.bool true) ∧ Hid (Inv8 w D d ao co ro W')) := by
        intro D W h
        refine (awake_any W (HT.out.below h.out.1 HT.out.big)).mono ?_
        rintro e W' ⟨rfl, hb⟩
        exact ⟨rfl, h.out.next hb⟩
      clear hd hdl hM hMM hML hri hro
      go_wp2_with fail
      refine HCC.out.mono ?_
      rintro e w2 ⟨a2, c2, r2, rfl, HR2, HS2, HB2, HO2⟩
      have HSH : Hid (Calls Tryd.prog 14 #[.slice a2 r2.length c2] w2 fun e w' => e = .returned (.agg (bs d).toArray) ∧ Below w2.heap.size w2 w') := by
        have hm := sha2_any a2 c2 r2 w2 HS2.out (by rw [HR2.out, List.length_append]; omega) (HT.out.below HB2.out HT.out.big)
        rw [show sha2 r2 = d by rw [HR2.out]; exact HD.out] at hm
        exact hm
      clear HCC HS2 HR2
      go_wp2_with (first
        | (go_at_call 14; refine HSH.out.mono ?_; rintro e w3 ⟨rfl, hb3⟩; have HB3 := hide (HB2.out.trans (hb3.mono HB2.out.size)); have HO3 := hide (HO2.out.below hb3 (Nat.le_refl _)); clear hb3)
        | (refine wpL_store rfl 31 _ _ rfl _ rfl (bs d) rfl 31 (bs (noughts 32)) (Cel.newAt' w3 _ _ _ _ rfl rfl) (by rw [bs_length, bs_length, HDL.out]; rfl) (by rw [bs_length, HDL.out]; kernel_rfl) (bs_one' _) ?_; intro w4 hC4 hg4; have hb4 := hide (cg_to_below (cg_trans (cg_alloc w3 _ (some w3.heap.size)) hg4) (Nat.le_refl _) (Nat.le_refl _)); have HI4 : Hid (Inv8 w w3.heap.size d ao co ro w4.drew) := ⟨(HB3.out.trans (cg_to_below (cg_trans (cg_alloc w3 _ (some w3.heap.size)) hg4) HB3.out.size HB3.out.size)).drew, hC4.drew, HB3.out.size, (HO3.out.below hb4.out (Nat.le_refl _)).below (Below.refl _ _).drew (Nat.le_refl _)⟩; clear hC4 hg4 hb4))
      clear HSH HB2 HB3 HO2 HO3 htw hb HTW HD HM HMM
      go_region_with (first
        | (go_at_call 16; refine (HC1.out w3.heap.size _ (by first | assumption | (refine Inv8.alloc ?_ _; assumption) | (refine Inv8.allocD ?_ _; assumption))).mono ?_; rintro e w5 ⟨rfl, hI5, hB5⟩)
        | (go_at_call 18; refine (HC2.out w3.heap.size _ _ (by first | assumption | (refine Inv8.alloc ?_ _; assumption) | (refine Inv8.allocD ?_ _; assumption)) (by first | exact Pair.new _ _ _ _ _ | exact Pair.newD _ _ _ _ _ | (refine Pair.below ?_ (by assumption); first | exact Pair.new _ _ _ _ _ | exact Pair.newD _ _ _ _ _))).mono ?_; rintro e w6 ⟨a6, c6, r6, rfl, hr6, hs6, hI6, hB6⟩)
        | (go_at_call 14; refine (HC3.out w3.heap.size _ a6 c6 r6 hr6 (by first | assumption | exact hs6.out.below hB5.out (Nat.le_refl _)) (by assumption)).mono ?_; rintro e w7 ⟨rfl, hI7, hB7⟩)
        | (go_at_call 9; refine (HC4.out w3.heap.size _ (by assumption)).mono ?_; rintro e w8 ⟨rfl, hI8⟩))
      all_goals
        go_wp2
        go_ret
        exact ⟨rfl, hI8.out.1⟩
#print axioms digestInner_loop
end Go.Proofs.YtloadoekdbjnoaaDoor
