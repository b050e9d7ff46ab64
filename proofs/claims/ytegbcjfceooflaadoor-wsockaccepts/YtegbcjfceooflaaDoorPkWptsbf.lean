/-
  THE WALKS of the reference's right and bytes; the blocks of a digest as plain mathematics.; THE WALK of the reference's blocks.
-/
import Derived.Test.YtegbcjfceooflaaDoorPkWptsae
import Derived.Test.YtegbcjfceooflaaDoorPkWptsai
import Derived.Test.YtegbcjfceooflaaDoorPkWptsam
import Derived.Test.YtegbcjfceooflaaDoorPkWptsal
section
set_option linter.unusedVariables false
namespace Go.Proofs.YtegbcjfceooflaaDoor
open Go.RowKit

theorem or_swap (x y : UInt32) : x ||| y = y ||| x := UInt32.or_comm x y
set_option maxHeartbeats 400000 in
theorem right_any (x : UInt32) (n : Nat) (w : World) (h1 : 1 ≤ n) (h2 : n ≤ 31) :
    Calls Tryd.prog 45 #[.int .u32 (x.toNat : Int), .int .i64 (n : Int)] w fun e w' => e = .returned (.int .u32 ((rotr x n).toNat : Int)) ∧ ∃ k, w' = w.drewN k := by
  obtain ⟨m, hm⟩ : ∃ m : Nat, m + n = 32 := ⟨32 - n, by omega⟩
  have hs : (32 : Int) - (n : Int) = (m : Int) := by omega
  have HR : Hid (bits .or .u32 ((x.toNat : Int) / 2 ^ n) ((x.toNat : Int) * 2 ^ m % 4294967296) = ((rotr x n).toNat : Int)) := by
    show _ = _
    rw [u_shl x m (by omega), u_shr x n (by omega), u_or, or_swap]
    have e1 : 32 - n = m := by omega
    have e2 : 32 - m = n := by omega
    rw [rotr, rotl, e1, e2]
  have hm2 : m ≤ 31 := by omega
  clear hm
  go_enter Tryd.func45, Tryd.ntmps45
  go_wp2
  go_quiet (fail)
  go_wp2
  go_ret
  exact ⟨ret_int HR.out, nq, rfl⟩

theorem by4_row (w : World) (x : UInt32) : Row (w.alloc (.cells #[.int .u8 ((UInt8.ofNat (x.toNat / 16777216)).toNat : Int), .int .u8 ((UInt8.ofNat (x.toNat / 65536)).toNat : Int), .int .u8 ((UInt8.ofNat (x.toNat / 256)).toNat : Int), .int .u8 ((UInt8.ofNat x.toNat).toNat : Int)] 5)) (some ⟨w.heap.size, 0, none⟩) (by4 x) := by
  intro _
  refine ⟨w.heap.size, 0, rfl, fun i hi => ?_⟩
  have hi' : i < 4 := hi
  rw [Nat.zero_add, cell_of_row _ w.heap.size i _ _ _ (heap_alloc_new w _)]
  match i, hi' with
  | 0, _ => rfl
  | 1, _ => rfl
  | 2, _ => rfl
  | 3, _ => rfl

set_option maxHeartbeats 1000000 in
theorem rbytes_any (a : Option Addr) (cap : Nat) (l : List UInt32) (base : Nat) (w : World) (ho : OwnW w base a cap l) (hl : l.length ≤ 100) :
    Calls Tryd.prog 46 #[.slice a l.length cap] w fun e w' => ∃ a' cap' r, e = .returned (.slice a' r.length cap') ∧ Hid (r = byts l) ∧ OwnB w' w.heap.size a' cap' r ∧ Below w.heap.size w w' := by
  go_enter Tryd.func46, Tryd.ntmps46
  go_wp2
  go_loopw [3, 8] (fun v i wr => ∃ (k : Nat) (a' : Option Addr) (cap' : Nat) (r : List UInt8), k ≤ l.length ∧ i = .int .i64 (k : Int) ∧ v = .slice a' r.length cap' ∧ Hid (r = byts (l.take k)) ∧ OwnB wr w.heap.size a' cap' r ∧ Below w.heap.size w wr) (fun _ i _ => l.length - (intOf i).toNat)
  case atStart => exact ⟨0, none, 0, [], Nat.zero_le _, rfl, rfl, rfl, OwnB.nil _ _, Below.refl _ _⟩
  case round =>
    obtain ⟨k, a', cap', r, hk, rfl, rfl, hr, ho', hb⟩ := hrel
    have hrl : r.length ≤ 400 := by rw [hr.out, byts_length, List.length_take]; omega
    by_cases hlt : k < l.length
    · obtain ⟨g, rfl, _, hg, _, hc⟩ := ho.some (by omega)
      have ck := hc k hlt
      rw [← hb.cell hg] at ck
      have hlt2 : (k : Int) < (l.length : Int) := by omega
      have HS : Hid (byts (l.take k) ++ by4 (l.getD k 0) = byts (l.take (k + 1))) := by
        show _ = _
        have e : l.take (k + 1) = l.take k ++ [l.getD k 0] := by rw [List.take_add_one]; simp [hlt]
        rw [e]
        simp only [byts, List.flatMap_append, List.flatMap_cons, List.flatMap_nil, List.append_nil]
      generalize l.getD k 0 = x at *
      have hsz := hb.size
      have hx := x.toNat_lt
      have q0 : (x.toNat : Int) / 16777216 = ((UInt8.ofNat (x.toNat / 16777216)).toNat : Int) := by simp; omega
      have q1 : (x.toNat : Int) / 65536 % 256 = ((UInt8.ofNat (x.toNat / 65536)).toNat : Int) := by simp
      have q2 : (x.toNat : Int) / 256 % 256 = ((UInt8.ofNat (x.toNat / 256)).toNat : Int) := by simp
      have q3 : (x.toNat : Int) % 256 = ((UInt8.ofNat x.toNat).toNat : Int) := by simp
      have hrow := by4_row wr x
      rw [← q0, ← q1, ← q2, ← q3] at hrow
      have HRW := hide hrow
      clear hrow q0 q1 q2 q3 hc
      go_wp2_with (at_builtin; refine wp_app _ rfl _ _ rfl w.heap.size a' cap' r rfl (ho'.alloc _) (some ⟨wr.heap.size, 0, none⟩) 4 (by4 x) 4 rfl rfl HRW.out (fun h => by cases h) ?c1 ?c2 ?_)
      case c1 => show r.length + 4 ≤ _; omega
      case c2 => first | omega | (simp; omega)
      intro a2 cap2 r2 w2 hr2 ho2 hg2
      have hb2 : Below w.heap.size w w2 := below_grown (hb.alloc hb.size _) hg2 (Nat.le_refl _) (fun k hk => (ho'.lt k hk).1)
      have HR : Hid (r2 = byts (l.take (k + 1))) := by show _ = _; rw [hr2.out, hr.out]; exact HS.out
      clear hr2 hg2 HRW
      go_wp2
      go_roundw
      case rel => exact ⟨k + 1, a2, cap2, r2, by omega, by go_num, rfl, HR, ho2, hb2⟩
      case measure => simp [intOf]; omega
    · obtain rfl : k = l.length := by omega
      rw [List.take_length] at hr
      go_wp2
      go_ret
      exact ⟨a', cap', r, rfl, hr, ho', hb⟩

/-! The blocks -/
theorem blks_flat : ∀ (m : Nat) (n : Nat) (b : List UInt8), b.length ≤ m → (blks n b).flatten = b ++ 128 :: (noughts ((119 - b.length % 64) % 64) ++ cnt8 n)
  | m, n, b, hm => by
    by_cases h : 64 ≤ b.length
    · match m with
      | 0 => omega
      | m + 1 =>
        rw [blks_go n b h, List.flatten_cons, blks_flat m n (b.drop 64) (by simp; omega), ← List.append_assoc, List.take_append_drop]
        have : (b.drop 64).length % 64 = b.length % 64 := by simp; omega
        rw [this]
    · rw [blks_end n b (by omega)]
      unfold ends
      by_cases h56 : 56 ≤ b.length
      · rw [if_pos h56]
        simp only [List.flatten_cons, List.flatten_nil, List.append_nil, List.append_assoc, List.cons_append]
        congr 2
        rw [← List.append_assoc]
        congr 1
        unfold noughts
        rw [List.replicate_append_replicate]
        congr 1
        omega
      · rw [if_neg h56]
        simp only [List.flatten_cons, List.flatten_nil, List.append_nil]
        congr 4
        omega
theorem blks_each : ∀ (m : Nat) (n : Nat) (b : List UInt8), b.length ≤ m → ∀ x ∈ blks n b, x.length = 64
  | m, n, b, hm => by
    by_cases h : 64 ≤ b.length
    · match m with
      | 0 => omega
      | m + 1 =>
        rw [blks_go n b h]
        intro x hx
        rcases List.mem_cons.1 hx with rfl | hx
        · simp; omega
        · exact blks_each m n (b.drop 64) (by simp; omega) x hx
    · rw [blks_end n b (by omega)]
      unfold ends
      by_cases h56 : 56 ≤ b.length
      · rw [if_pos h56]
        intro x hx
        simp only [List.mem_cons, List.not_mem_nil, or_false] at hx
        rcases hx with rfl | rfl
        · simp [noughts]; omega
        · simp [noughts, cnt8]
      · rw [if_neg h56]
        intro x hx
        simp only [List.mem_cons, List.not_mem_nil, or_false] at hx
        subst hx
        simp [noughts, cnt8]; omega
/-- The j-th block of bytes. -/
theorem flat_block : ∀ (L : List (List UInt8)), (∀ x ∈ L, x.length = 64) → ∀ (j : Nat) (hj : j < L.length), (L.flatten.drop (64 * j)).take 64 = L[j]
  | x :: L, h, 0, hj => by
    have := h x (by simp)
    simp only [Nat.mul_zero, List.drop_zero, List.flatten_cons, List.getElem_cons_zero]
    rw [List.take_append_of_le_length (by omega), List.take_of_length_le (by omega)]
  | x :: L, h, j + 1, hj => by
    have hx := h x (by simp)
    have := flat_block L (fun y hy => h y (by simp [hy])) j (by simpa using hj)
    simp only [List.flatten_cons, List.getElem_cons_succ]
    rw [show 64 * (j + 1) = x.length + 64 * j by omega, List.drop_append, List.drop_eq_nil_of_le (by omega), Nat.add_sub_cancel_left, List.nil_append]
    exact this
theorem flat_length : ∀ (L : List (List UInt8)), (∀ x ∈ L, x.length = 64) → L.flatten.length = 64 * L.length
  | [], _ => rfl
  | x :: L, h => by
    have := h x (by simp)
    rw [List.flatten_cons, List.length_append, flat_length L (fun y hy => h y (by simp [hy])), this, List.length_cons]
    omega
/-- The first k words of a block. -/
def wrd (m : List UInt8) (k : Nat) : List UInt32 := (List.range k).map (wd m)
theorem wrd_length (m : List UInt8) (k : Nat) : (wrd m k).length = k := by simp [wrd]
theorem wrd_succ (m : List UInt8) (k : Nat) : wrd m (k + 1) = wrd m k ++ [wd m k] := by simp [wrd, List.range_succ]
theorem wrd_sch1 (m : List UInt8) : ∀ k, k ≤ 16 → sch1 m k = wrd m k
  | 0, _ => rfl
  | k + 1, h => by rw [sch1, wrd_sch1 m k (by omega), wrd_succ, nxt1, if_pos (by omega)]
theorem wrd_sch2 (m : List UInt8) : ∀ k, k ≤ 16 → sch2 m k = wrd m k
  | 0, _ => rfl
  | k + 1, h => by rw [sch2, wrd_sch2 m k (by omega), wrd_succ, nxt2, if_pos (by omega)]
#print axioms right_any
#print axioms rbytes_any
#print axioms flat_block
end Go.Proofs.YtegbcjfceooflaaDoor
end
section
set_option linter.unusedVariables false
namespace Go.Proofs.YtegbcjfceooflaaDoor
open Go.RowKit

theorem cnt8_be (n : Nat) : cnt8 n = be 8 n := by
  rw [be_left, be_left, be_left, be_left, be_left, be_left, be_left, be_left]
  simp [cnt8, be]
theorem shr_byte7 (n j : Nat) : (((UInt8.ofNat (n / 256 ^ j)).toNat : Nat) : Int) = ((n : Int) / (2 : Int) ^ (8 * j)) % 256 := by
  have e : (2 : Int) ^ (8 * j) = ((256 ^ j : Nat) : Int) := by
    rw [Int.pow_mul]
    simp
  rw [e]
  simp
/-- Slices of sixteen words each. -/
def Wks (w : World) (g : Nat) (LL : List (List UInt8)) : Prop := ∀ (j : Nat) (m : List UInt8), LL[j]? = some m → ∃ b c, w.cell? ⟨g, j, none⟩ = some (.slice (some ⟨b, 0, none⟩) 16 c) ∧ RowW w b (wrd m 16)
theorem Wks.below {w w' : World} {g B : Nat} {LL : List (List UInt8)} (h : Wks w g LL) (hb : Below B w w') (hB : w.heap.size ≤ B) : Wks w' g LL := by
  intro j m hm
  obtain ⟨b, c, h1, h2⟩ := h j m hm
  have hg := World.block_lt_of_cell? w _ h1
  have hbb : b < w.heap.size := World.block_lt_of_cell? w _ (h2 0 (by rw [wrd_length]; decide))
  exact ⟨b, c, by rw [hb.cell (Nat.lt_of_lt_of_le hg hB)]; exact h1, h2.below hb (Nat.lt_of_lt_of_le hbb hB)⟩
/-- .. all of them at a place or above. -/
def WksB (base : Nat) (w : World) (g : Nat) (LL : List (List UInt8)) : Prop := base ≤ g ∧ ∀ (j : Nat) (m : List UInt8), LL[j]? = some m → ∃ b c, w.cell? ⟨g, j, none⟩ = some (.slice (some ⟨b, 0, none⟩) 16 c) ∧ RowW w b (wrd m 16) ∧ base ≤ b
theorem WksB.toWks {base : Nat} {w : World} {g : Nat} {LL : List (List UInt8)} (h : WksB base w g LL) : Wks w g LL := fun j m hm => by
  obtain ⟨b, c, h1, h2, _⟩ := h.2 j m hm
  exact ⟨b, c, h1, h2⟩
theorem WksB.below {base : Nat} {w w' : World} {g B : Nat} {LL : List (List UInt8)} (h : WksB base w g LL) (hb : Below B w w') (hB : w.heap.size ≤ B) : WksB base w' g LL := by
  refine ⟨h.1, fun j m hm => ?_⟩
  obtain ⟨b, c, h1, h2, h3⟩ := h.2 j m hm
  have hg := World.block_lt_of_cell? w _ h1
  have hbb : b < w.heap.size := World.block_lt_of_cell? w _ (h2 0 (by rw [wrd_length]; decide))
  exact ⟨b, c, by rw [hb.cell (Nat.lt_of_lt_of_le hg hB)]; exact h1, h2.below hb (Nat.lt_of_lt_of_le hbb hB), h3⟩
theorem cell_far {w w' : World} {G k i : Nat} (hg : w.grownBy w' (some G)) (hne : k ≠ G) (hk : k < w.heap.size) : w'.cell? ⟨k, i, none⟩ = w.cell? ⟨k, i, none⟩ := by
  unfold World.cell?
  rw [hg.block k hk (by intro e; exact hne (Option.some.inj e))]
theorem RowW.far {w w' : World} {G k : Nat} {l : List UInt32} (h : RowW w k l) (hg : w.grownBy w' (some G)) (hne : k ≠ G) (hk : k < w.heap.size) : RowW w' k l := fun i hi => by rw [cell_far hg hne hk]; exact h i hi
/-- What is written below changes none. -/
theorem WksB.far {base : Nat} {w w' : World} {g G : Nat} {LL : List (List UInt8)} (h : WksB base w g LL) (hg : w.grownBy w' (some G)) (hG : G < base) : WksB base w' g LL := by
  refine ⟨h.1, fun j m hm => ?_⟩
  obtain ⟨b, c, h1, h2, h3⟩ := h.2 j m hm
  have hgl := World.block_lt_of_cell? w _ h1
  have hbb : b < w.heap.size := World.block_lt_of_cell? w _ (h2 0 (by rw [wrd_length]; decide))
  have := h.1
  exact ⟨b, c, by rw [cell_far (k := g) hg (by omega) hgl]; exact h1, h2.far hg (by omega) hbb, h3⟩
/-- The finished blocks: slices of words in rows below a mark. -/
def Fin16 (w : World) (base B : Nat) (vs : List Sl) (ms : List (List UInt8)) : Prop := vs.length = ms.length ∧ ∀ (j : Nat) (m : List UInt8), ms[j]? = some m → ∃ g c, vs[j]? = some (some ⟨g, 0, none⟩, 16, c) ∧ g < B ∧ OwnW w base (some ⟨g, 0, none⟩) c (wrd m 16)
theorem Fin16.nil (w : World) (base B : Nat) : Fin16 w base B [] [] := ⟨rfl, fun j m h => by simp at h⟩
theorem Fin16.alloc {w : World} {base B : Nat} {vs : List Sl} {ms : List (List UInt8)} (h : Fin16 w base B vs ms) (o : Obj) : Fin16 (w.alloc o) base B vs ms :=
  ⟨h.1, fun j m hm => by obtain ⟨g, c, h1, h2, h3⟩ := h.2 j m hm; exact ⟨g, c, h1, h2, h3.alloc o⟩⟩
theorem Fin16.drewN {w : World} {base B : Nat} {vs : List Sl} {ms : List (List UInt8)} (h : Fin16 w base B vs ms) (n : Nat) : Fin16 (w.drewN n) base B vs ms := h
theorem Fin16.mark {w : World} {base B B' : Nat} {vs : List Sl} {ms : List (List UInt8)} (h : Fin16 w base B vs ms) (hB : B ≤ B') : Fin16 w base B' vs ms :=
  ⟨h.1, fun j m hm => by obtain ⟨g, c, h1, h2, h3⟩ := h.2 j m hm; exact ⟨g, c, h1, by omega, h3⟩⟩
/-- What is written at the mark or above, or in a row of slices, changes none. -/
theorem Fin16.above {w w' : World} {base B : Nat} {vs : List Sl} {ms : List (List UInt8)} (h : Fin16 w base B vs ms) {row : Option Nat} (hg : w.grownBy w' row) (hr : ∀ k, row = some k → B ≤ k) : Fin16 w' base B vs ms :=
  ⟨h.1, fun j m hm => by
    obtain ⟨g, c, h1, h2, h3⟩ := h.2 j m hm
    refine ⟨g, c, h1, h2, h3.kept hg (.inr ?_)⟩
    intro e
    have := hr g e.symm
    omega⟩
theorem Fin16.table {w w' : World} {base base' B cap : Nat} {vs us : List Sl} {ms : List (List UInt8)} {a : Option Addr} (h : Fin16 w base B vs ms) (hT : OwnT w base' a cap us) (hg : w.grownBy w' (blk a)) : Fin16 w' base B vs ms :=
  ⟨h.1, fun j m hm => by
    obtain ⟨g, c, h1, h2, h3⟩ := h.2 j m hm
    exact ⟨g, c, h1, h2, h3.kept hg (neSym (hT.neW h3))⟩⟩
theorem Fin16.snoc {w : World} {base B g c : Nat} {vs : List Sl} {ms : List (List UInt8)} {m : List UInt8} (h : Fin16 w base B vs ms) (hB : B ≤ w.heap.size) (ho : OwnW w base (some ⟨g, 0, none⟩) c (wrd m 16)) (hg : g < w.heap.size) : Fin16 w base w.heap.size (vs ++ [(some ⟨g, 0, none⟩, 16, c)]) (ms ++ [m]) := by
  refine ⟨by simp [h.1], fun j q hq => ?_⟩
  by_cases hj : j < ms.length
  · rw [List.getElem?_append_left hj] at hq
    obtain ⟨g', c', h1, h2, h3⟩ := h.2 j q hq
    refine ⟨g', c', ?_, by omega, h3⟩
    rw [List.getElem?_append_left (by have := h.1; omega)]
    exact h1
  · have hj2 := (List.getElem?_eq_some_iff.1 hq).1
    simp at hj2
    obtain rfl : j = ms.length := by omega
    simp at hq
    subst hq
    refine ⟨g, c, ?_, hg, ho⟩
    rw [← h.1]
    simp
theorem Fin16.wks {w : World} {base base' B G cap : Nat} {vs : List Sl} {ms : List (List UInt8)} (h : Fin16 w base B vs ms) (hT : OwnT w base' (some ⟨G, 0, none⟩) cap vs) : Wks w G ms := by
  intro j m hm
  obtain ⟨g, c, h1, h2, h3⟩ := h.2 j m hm
  have hj := (List.getElem?_eq_some_iff.1 h1).1
  obtain ⟨G', e, _, _, _, hc⟩ := hT.some (by omega)
  obtain rfl : G = G' := by simpa using Option.some.inj e
  refine ⟨g, c, hc j _ h1, fun t ht => ?_⟩
  obtain ⟨g', e', _, _, _, hc'⟩ := h3.some (by rw [wrd_length]; decide)
  obtain rfl : g = g' := by simpa using Option.some.inj e'
  exact hc' t ht

theorem Fin16.wksB {w : World} {base base' B G cap : Nat} {vs : List Sl} {ms : List (List UInt8)} (h : Fin16 w base B vs ms) (hT : OwnT w base (some ⟨G, 0, none⟩) cap vs) : WksB base w G ms := by
  refine ⟨(hT.lt G rfl).1, fun j m hm => ?_⟩
  obtain ⟨g, c, h1, h2, h3⟩ := h.2 j m hm
  have hj := (List.getElem?_eq_some_iff.1 h1).1
  obtain ⟨G', e, _, _, _, hc⟩ := hT.some (by omega)
  obtain rfl : G = G' := by simpa using Option.some.inj e
  refine ⟨g, c, hc j _ h1, fun t ht => ?_, (h3.lt g rfl).1⟩
  obtain ⟨g', e', _, _, _, hc'⟩ := h3.some (by rw [wrd_length]; decide)
  obtain rfl : g = g' := by simpa using Option.some.inj e'
  exact hc' t ht
theorem flat_get (L : List (List UInt8)) (h : ∀ x ∈ L, x.length = 64) (J : Nat) (m : List UInt8) (hm : L[J]? = some m) (t : Nat) (ht : t < 64) : L.flatten.getD (64 * J + t) 0 = m.getD t 0 := by
  obtain ⟨hj, e⟩ := List.getElem?_eq_some_iff.1 hm
  have e2 := flat_block L h J hj
  rw [e] at e2
  rw [← e2]
  simp only [List.getD_eq_getElem?_getD]
  rw [List.getElem?_take, if_pos ht, List.getElem?_drop]
/-- The table of blocks under way. -/
def Tab (w : World) (base : Nat) (LL : List (List UInt8)) (J k : Nat) (ao : Option Addr) (co : Nat) (vs : List Sl) : Prop :=
  ∃ (fs : List Sl) (B : Nat), base ≤ B ∧ B ≤ w.heap.size ∧ OwnT w base ao co vs ∧ Fin16 w base B fs (LL.take J) ∧ fs.length = J ∧ (k = 0 → vs = fs) ∧
    (0 < k → ∃ al cl, vs = fs ++ [(al, k, cl)] ∧ OwnW w B al cl (wrd (LL.getD J []) k))
/-- The table with a block that has begun. -/
def TabB (w : World) (base : Nat) (LL : List (List UInt8)) (J k : Nat) (ao : Option Addr) (co : Nat) (vs : List Sl) (al : Option Addr) (cl B : Nat) : Prop :=
  ∃ (fs : List Sl), base ≤ B ∧ B ≤ w.heap.size ∧ OwnT w base ao co vs ∧ Fin16 w base B fs (LL.take J) ∧ fs.length = J ∧ vs = fs ++ [(al, k, cl)] ∧ OwnW w B al cl (wrd (LL.getD J []) k)
theorem Tab.begun {w : World} {base : Nat} {LL : List (List UInt8)} {J k : Nat} {ao : Option Addr} {co : Nat} {vs : List Sl} (h : Tab w base LL J k ao co vs) (hk : 0 < k) : ∃ al cl B, TabB w base LL J k ao co vs al cl B := by
  obtain ⟨fs, B, h1, h2, h3, h4, h5, _, h7⟩ := h
  obtain ⟨al, cl, e, ho⟩ := h7 hk
  exact ⟨al, cl, B, fs, h1, h2, h3, h4, h5, e, ho⟩
theorem Tab.none {w w' : World} {base : Nat} {LL : List (List UInt8)} {J : Nat} {ao : Option Addr} {co : Nat} {vs : List Sl} (h : Tab w base LL J 0 ao co vs) (o : Obj) {a' : Option Addr} {c' : Nat} {r : List Sl} (hr : r = vs ++ [(Option.none, 0, 0)]) (ho : OwnT w' base a' c' r) (hg : (w.alloc o).grownBy w' (blk ao)) (hb : base ≤ w.heap.size) : TabB w' base LL J 0 a' c' r Option.none 0 w'.heap.size := by
  obtain ⟨fs, B, h1, h2, h3, h4, h5, h6, _⟩ := h
  obtain rfl := h6 rfl
  have hsz : w.heap.size + 1 ≤ w'.heap.size := by have := hg.size; simpa using this
  exact ⟨vs, by omega, Nat.le_refl _, ho, ((h4.alloc o).table (h3.alloc o) hg).mark (by omega), h5, hr, OwnW.nil _ _⟩
theorem Tab.own {w : World} {base : Nat} {LL : List (List UInt8)} {J k : Nat} {ao : Option Addr} {co : Nat} {vs : List Sl} (h : Tab w base LL J k ao co vs) : OwnT w base ao co vs := by
  obtain ⟨fs, B, h1, h2, h3, _⟩ := h
  exact h3
theorem Tab.len {w : World} {base : Nat} {LL : List (List UInt8)} {J k : Nat} {ao : Option Addr} {co : Nat} {vs : List Sl} (h : Tab w base LL J k ao co vs) : vs.length ≤ J + 1 := by
  obtain ⟨fs, B, h1, h2, h3, h4, h5, h6, h7⟩ := h
  by_cases hk : k = 0
  · rw [h6 hk]; omega
  · obtain ⟨al, cl, e, _⟩ := h7 (by omega)
    rw [e]; simp; omega
theorem TabB.len {w : World} {base : Nat} {LL : List (List UInt8)} {J k : Nat} {ao : Option Addr} {co : Nat} {vs : List Sl} {al : Option Addr} {cl B : Nat} (h : TabB w base LL J k ao co vs al cl B) : vs.length = J + 1 := by
  obtain ⟨fs, h1, h2, h3, h4, h5, h6, _⟩ := h
  rw [h6]
  simp [h5]
theorem TabB.at {w : World} {base : Nat} {LL : List (List UInt8)} {J k : Nat} {ao : Option Addr} {co : Nat} {vs : List Sl} {al : Option Addr} {cl B : Nat} (h : TabB w base LL J k ao co vs al cl B) : ∃ G, ao = some ⟨G, 0, none⟩ ∧ G < w.heap.size ∧ base ≤ G ∧ w.frozen? ⟨G, J, none⟩ = false ∧ w.cell? ⟨G, J, none⟩ = some (.slice al k cl) := by
  have hl := h.len
  obtain ⟨fs, h1, h2, h3, h4, h5, h6, _⟩ := h
  obtain ⟨G, e, hg1, hg2, hf, hc⟩ := h3.some (by omega)
  exact ⟨G, e, hg2, hg1, hf J, hc J (al, k, cl) (by rw [h6, ← h5]; simp)⟩
theorem TabB.own {w : World} {base : Nat} {LL : List (List UInt8)} {J k : Nat} {ao : Option Addr} {co : Nat} {vs : List Sl} {al : Option Addr} {cl B : Nat} (h : TabB w base LL J k ao co vs al cl B) : base ≤ B ∧ B ≤ w.heap.size ∧ OwnW w B al cl (wrd (LL.getD J []) k) := by
  obtain ⟨fs, h1, h2, h3, h4, h5, h6, h7⟩ := h
  exact ⟨h1, h2, h7⟩
theorem TabB.step {w w5 : World} {base : Nat} {LL : List (List UInt8)} {J k G : Nat} {co : Nat} {vs : List Sl} {al : Option Addr} {cl B : Nat} (h : TabB w base LL J k (some ⟨G, 0, none⟩) co vs al cl B) (o : Obj) {a' : Option Addr} {c' : Nat} {r : List UInt32}
    (hr : r = wrd (LL.getD J []) k ++ [wd (LL.getD J []) k]) (ho : OwnW w5 B a' c' r) (hg : (w.alloc o).grownBy w5 (blk al)) : TabB (w5.setCell ⟨G, J, none⟩ (.slice a' r.length c')) base LL J (k + 1) (some ⟨G, 0, none⟩) co (vs.set J (a', k + 1, c')) a' c' B := by
  obtain ⟨fs, h1, h2, h3, h4, h5, h6, h7⟩ := h
  have hl : r.length = k + 1 := by rw [hr]; simp [wrd_length]
  have hsz : w.heap.size + 1 ≤ w5.heap.size := by have := hg.size; simpa using this
  have t5 : OwnT w5 base (some ⟨G, 0, none⟩) co vs := (h3.alloc o).kept hg ((h3.alloc o).neW (h7.alloc o))
  have f5 : Fin16 w5 base B fs (LL.take J) := (h4.alloc o).above hg (fun k hk => (h7.lt k hk).1)
  have gs := grownBy_setCell w5 ⟨G, J, none⟩ (.slice a' r.length c')
  refine ⟨fs, h1, by simp [World.setCell]; omega, ?_, f5.table t5 gs, h5, ?_, ?_⟩
  · have := t5.stored J (a', k + 1, c')
    rw [hl]
    exact this
  · rw [h6, ← h5]
    simp
  · have e : wrd (LL.getD J []) (k + 1) = r := by rw [hr, wrd_succ]
    rw [e]
    exact ho.kept gs (neSym (t5.neW ho))
theorem TabB.mid {w w5 : World} {base : Nat} {LL : List (List UInt8)} {J k G : Nat} {co : Nat} {vs : List Sl} {al : Option Addr} {cl B : Nat} (h : TabB w base LL J k (some ⟨G, 0, none⟩) co vs al cl B) (o : Obj) (hg : (w.alloc o).grownBy w5 (blk al)) : w5.frozen? ⟨G, J, none⟩ = false ∧ w5.cell? ⟨G, J, none⟩ = some (.slice al k cl) ∧ Hid (OwnT w5 base (some ⟨G, 0, none⟩) co vs) := by
  have hl := h.len
  obtain ⟨fs, h1, h2, h3, h4, h5, h6, h7⟩ := h
  have t5 : OwnT w5 base (some ⟨G, 0, none⟩) co vs := (h3.alloc o).kept hg ((h3.alloc o).neW (h7.alloc o))
  obtain ⟨G', e, hg1, hg2, hf, hc⟩ := t5.some (by omega)
  obtain rfl : G = G' := by simpa using Option.some.inj e
  exact ⟨hf J, hc J (al, k, cl) (by rw [h6, ← h5]; simp), t5⟩
theorem TabB.more {w : World} {base : Nat} {LL : List (List UInt8)} {J k : Nat} {ao : Option Addr} {co : Nat} {vs : List Sl} {al : Option Addr} {cl B : Nat} (h : TabB w base LL J k ao co vs al cl B) (hk : 0 < k) : Tab w base LL J k ao co vs := by
  obtain ⟨fs, h1, h2, h3, h4, h5, h6, h7⟩ := h
  exact ⟨fs, B, h1, h2, h3, h4, h5, fun h => by omega, fun _ => ⟨al, cl, h6, h7⟩⟩
theorem TabB.done {w : World} {base : Nat} {LL : List (List UInt8)} {J : Nat} {ao : Option Addr} {co : Nat} {vs : List Sl} {al : Option Addr} {cl B : Nat} (h : TabB w base LL J 16 ao co vs al cl B) (hJ : J < LL.length) : Tab w base LL (J + 1) 0 ao co vs := by
  obtain ⟨fs, h1, h2, h3, h4, h5, h6, h7⟩ := h
  obtain ⟨g, rfl, hg1, hg2, _⟩ := h7.some (by rw [wrd_length]; decide)
  refine ⟨vs, w.heap.size, by omega, Nat.le_refl _, h3, ?_, by rw [h6]; simp [h5], fun _ => rfl, fun h => by omega⟩
  have e : LL.take (J + 1) = LL.take J ++ [LL.getD J []] := by rw [List.take_add_one]; simp [hJ]
  rw [h6, e]
  exact h4.snoc h2 (h7.base h1) hg2
#print axioms flat_get
set_option maxRecDepth 100000 in
set_option maxHeartbeats 8000000 in
theorem blocks_low (a : Option Addr) (cap : Nat) (l : List UInt8) (w : World) (hB : Bs w a cap l) (hl : l.length ≤ 100000) :
    Calls Tryd.prog 44 #[.slice a l.length cap] w fun e w' => ∃ (g n c : Nat), e = .returned (.slice (some ⟨g, 0, none⟩) n c) ∧ Hid (n = (blks (l.length * 8) l).length) ∧ Hid (WksB w.heap.size w' g (blks (l.length * 8) l)) ∧ Hid (Below w.heap.size w w') ∧ n ≤ 10000 := by
  obtain ⟨K, hK⟩ : ∃ K, K = (119 - l.length % 64) % 64 := ⟨_, rfl⟩
  have hK2 : K ≤ 63 := by omega
  have HB := hide hB
  clear hB
  go_enter Tryd.func44, Tryd.ntmps44
  go_wp2_with (at_builtin; refine wp_app _ rfl _ _ rfl w.heap.size (some ⟨w.heap.size, 0, none⟩) 0 [] rfl (own_empty w _ (Nat.le_refl _)) a cap l _ rfl rfl (HB.out.row.alloc _) HB.out.nz ?c3 ?c4 ?_)
  case c3 => simp; omega
  case c4 => simp
  intro a2 cap2 r2 w2 hr2 ho2 hg2
  have hb2 : Below w.heap.size w w2 := below_grown (a := some ⟨w.heap.size, 0, none⟩) ((Below.refl _ _).alloc (Nat.le_refl _) _) hg2 (Nat.le_refl _) (fun k hk => by simp [blk] at hk; omega)
  have er : l = r2 := by rw [hr2.out]
  have hr2l : r2.length ≤ 100000 := by rw [← er]; exact hl
  have HER := hide er
  have hs2 := hb2.size
  clear hr2 hg2 er
  go_wp2_with (at_builtin; refine wp_app _ rfl _ _ rfl w.heap.size a2 cap2 r2 rfl (ho2.alloc _) (some ⟨w2.heap.size, 0, none⟩) 1 [128] 1 rfl rfl (row_lit _ _ _ rfl) (fun h => by cases h) ?c5 ?c6 ?_)
  case c5 => simp; omega
  case c6 => first | omega | (simp; omega)
  intro a3 cap3 r3 w3 hr3 ho3 hg3
  have hb3 : Below w.heap.size w w3 := below_grown (hb2.alloc hb2.size _) hg3 (Nat.le_refl _) (fun k hk => (ho2.lt k hk).1)
  have HR3 : Hid (r3 = l ++ 128 :: noughts 0) := by show _ = _; rw [hr3.out, HER.out]; rfl
  clear hr3 hg3 ho2 hb2 HER hr2l hs2
  go_wp2
  go_loopw [3] (fun v wr => ∃ (m : Nat) (a' : Option Addr) (cap' : Nat) (r : List UInt8), m ≤ K ∧ v = .slice a' r.length cap' ∧ Hid (r = l ++ 128 :: noughts m) ∧ OwnB wr w.heap.size a' cap' r ∧ Below w.heap.size w wr) (fun v _ => l.length + 1 + K - slen v)
  case atStart => exact ⟨0, a3, cap3, r3, Nat.zero_le _, rfl, HR3, ho3, hb3⟩
  case round =>
    clear HR3 ho3 hb3
    obtain ⟨m, a', cap', r, hm, rfl, HR, ho, hb⟩ := hrel
    have hrl : r.length = l.length + 1 + m := by rw [HR.out]; simp [noughts]; omega
    have hrl2 : r.length ≤ 200000 := by omega
    obtain ⟨M, hM⟩ : ∃ M : Nat, M = r.length % 64 := ⟨_, rfl⟩
    have hM1 : (r.length : Int).tmod 64 = (M : Int) := by rw [hM]; exact rfl
    have hM2 : (r.length : Int) % 64 = (M : Int) := by rw [hM]; simp
    have hsz := hb.size
    by_cases hmK : m < K
    · have hMne : ((M : Int) != 56) = true := by simp; omega
      have HRL := hide hrl
      clear hM hrl
      go_wp2_with (at_builtin; refine wp_app _ rfl _ _ rfl w.heap.size a' cap' r rfl (ho.alloc _) (some ⟨wr.heap.size, 0, none⟩) 1 [0] 1 rfl rfl (row_lit _ _ _ rfl) (fun h => by cases h) ?c5 ?c6 ?_)
      case c5 => simp; omega
      case c6 => first | omega | (simp; omega)
      intro a3 cap3 r3 w3 hr3 ho3 hg3
      have hb3 : Below w.heap.size w w3 := below_grown (hb.alloc hb.size _) hg3 (Nat.le_refl _) (fun k hk => (ho.lt k hk).1)
      have HR3 : Hid (r3 = l ++ 128 :: noughts (m + 1)) := by
        show _ = _
        rw [hr3.out, HR.out]
        show l ++ 128 :: List.replicate m 0 ++ [0] = l ++ 128 :: List.replicate (m + 1) 0
        rw [List.replicate_succ']
        simp
      have hl3 : Hid (r3.length = l.length + 1 + (m + 1)) := by show _ = _; rw [HR3.out]; simp [noughts]; omega
      clear hr3 hg3 ho hb
      go_wp2
      go_roundw
      case rel => exact ⟨m + 1, a3, cap3, r3, by omega, rfl, HR3, ho3, hb3⟩
      case measure => have := hl3.out; have := HRL.out; simp only [slen]; omega
    · obtain rfl : m = K := by omega
      have hMe : ((M : Int) != 56) = false := by simp; omega
      obtain ⟨N, hN⟩ : ∃ N : Nat, N = l.length * 8 := ⟨_, rfl⟩
      have hNi : (l.length : Int) * 8 = (N : Int) := by omega
      have hN2 : N ≤ 800000 := by omega
      have HRL := hide hrl
      have HN := hide hN
      have HKK := hide hK
      clear hM hrl hN hK
      go_wp2
      go_loopw [3, 5] (fun v i wr => ∃ (j : Nat) (a' : Option Addr) (cap' : Nat) (r : List UInt8), j ≤ 8 ∧ i = .int .i64 ((j : Int) - 1) ∧ v = .slice a' r.length cap' ∧ Hid (r = (l ++ 128 :: noughts m) ++ be (8 - j) (N / 256 ^ j)) ∧ OwnB wr w.heap.size a' cap' r ∧ Below w.heap.size w wr) (fun _ i _ => (intOf i + 1).toNat)
      case atStart => exact ⟨8, a', cap', r, Nat.le_refl _, rfl, rfl, (by show _ = _; rw [HR.out]; simp [be]), ho, hb⟩
      case round =>
        clear HR ho hb HRL hsz hrl2 hM1 hM2 hMe
        obtain ⟨j, a', cap', r, hj, rfl, rfl, HR, ho, hb⟩ := hrel
        have hrl : r.length ≤ 200000 := by rw [HR.out]; simp [be_length, noughts]; omega
        have hsz := hb.size
        by_cases hj0 : j = 0
        · subst hj0
          have HRA : Hid (r = (blks (l.length * 8) l).flatten) := by
            show _ = _
            rw [blks_flat _ _ l (Nat.le_refl _), HR.out, ← HKK.out, cnt8_be, ← HN.out]
            simp
          have HEA := hide (blks_each _ (l.length * 8) l (Nat.le_refl _))
          obtain ⟨LL, hLL⟩ : ∃ LL, blks (l.length * 8) l = LL := ⟨_, rfl⟩
          rw [hLL] at HRA HEA
          have HLL := hide hLL
          clear hLL
          have hlen : r.length = 64 * LL.length := by rw [HRA.out]; exact flat_length LL HEA.out
          obtain ⟨nb, hnb⟩ : ∃ nb, nb = LL.length := ⟨_, rfl⟩
          rw [← hnb] at hlen
          have HNB := hide hnb
          have hnbl : nb ≤ 5000 := by omega
          have hpos : 0 < nb := by
            have : 0 < r.length := by rw [HR.out]; simp; omega
            omega
          clear hnb HR HKK HN
          have h0 : ((0 : Nat) : Int) - 1 = -1 := by omega
          rw [h0]
          go_wp2
          go_loopw [6, 7] (fun v i wr => ∃ (J k I : Nat) (ao : Option Addr) (co : Nat) (vs : List Sl), k ≤ 15 ∧ I ≤ r.length ∧ I = 64 * J + 4 * k ∧ i = .int .i64 (I : Int) ∧ v = .slice ao vs.length co ∧ Hid (Tab wr w.heap.size LL J k ao co vs) ∧ OwnB wr w.heap.size a' cap' r ∧ Below w.heap.size w wr) (fun _ i _ => r.length - (intOf i).toNat)
          case atStart => exact ⟨0, 0, 0, none, 0, [], by omega, by omega, rfl, rfl, rfl, ⟨[], wr.heap.size, hb.size, Nat.le_refl _, OwnT.nil _ _, Fin16.nil _ _ _, rfl, fun _ => rfl, fun h => by omega⟩, ho, hb⟩
          case round =>
            clear ho hb hsz
            obtain ⟨J, k, I, ao, co, vs, hk, hIl, hI, rfl, rfl, HTB, ho, hb⟩ := hrel
            have hsz := hb.size
            by_cases hlt : I < r.length
            · have hJ : J < nb := by omega
              have hgm : LL[J]? = some (LL.getD J []) := by have := HNB.out; simp [show J < LL.length by omega]
              have q0 : r.getD (I + 0) 0 = (LL.getD J []).getD (4 * k) 0 := by
                have := flat_get LL HEA.out J _ hgm (4 * k + 0) (by omega)
                rw [← HRA.out, show 64 * J + (4 * k + 0) = I + 0 by omega] at this
                exact this
              have q1 : r.getD (I + 1) 0 = (LL.getD J []).getD (4 * k + 1) 0 := by
                have := flat_get LL HEA.out J _ hgm (4 * k + 1) (by omega)
                rw [← HRA.out, show 64 * J + (4 * k + 1) = I + 1 by omega] at this
                exact this
              have q2 : r.getD (I + 2) 0 = (LL.getD J []).getD (4 * k + 2) 0 := by
                have := flat_get LL HEA.out J _ hgm (4 * k + 2) (by omega)
                rw [← HRA.out, show 64 * J + (4 * k + 2) = I + 2 by omega] at this
                exact this
              have q3 : r.getD (I + 3) 0 = (LL.getD J []).getD (4 * k + 3) 0 := by
                have := flat_get LL HEA.out J _ hgm (4 * k + 3) (by omega)
                rw [← HRA.out, show 64 * J + (4 * k + 3) = I + 3 by omega] at this
                exact this
              have HWD : Hid (wd (LL.getD J []) k = b4 ((LL.getD J []).getD (4 * k) 0) ((LL.getD J []).getD (4 * k + 1) 0) ((LL.getD J []).getD (4 * k + 2) 0) ((LL.getD J []).getD (4 * k + 3) 0)) := rfl
              generalize (LL.getD J []).getD (4 * k) 0 = x0 at *
              generalize (LL.getD J []).getD (4 * k + 1) 0 = x1 at *
              generalize (LL.getD J []).getD (4 * k + 2) 0 = x2 at *
              generalize (LL.getD J []).getD (4 * k + 3) 0 = x3 at *
              have t1 : (I : Int).tmod 64 = ((4 * k : Nat) : Int) := by
                have e : (I : Int).tmod 64 = ((I % 64 : Nat) : Int) := rfl
                rw [e]; omega
              have t2 : (I : Int) % 64 = ((4 * k : Nat) : Int) := by omega
              have hI4 : I + 4 ≤ r.length := by omega
              have HI := hide hI
              have HLN := hide hlen
              clear hI hlen
              by_cases hk0 : k = 0
              · subst hk0
                have t3 : (((4 * 0 : Nat) : Int) == 0) = true := rfl
                have hvl := HTB.out.len
                go_wp2_with (at_builtin; refine wp_appt1 _ rfl _ _ rfl w.heap.size ao co vs rfl (HTB.out.own.alloc _) wr.heap.size 1 (none, 0, 0) rfl (cell_litt _ _ _ _) ?e1 ?e2 ?_)
                case e1 => omega
                case e2 => first | omega | (simp; omega)
                intro a3 c3' vs3 w3 hr3 ho3 hg3
                have HTN := hide (Tab.none HTB.out _ hr3.out ho3 hg3 hsz)
                have hoA : OwnB w3 w.heap.size a' cap' r := (ho.alloc _).kept hg3 (HTB.out.own.ne' ho)
                have hbA : Below w.heap.size w w3 := below_grown (hb.alloc hb.size _) hg3 (Nat.le_refl _) (fun k hk => (HTB.out.own.lt k hk).1)
                clear hr3 ho3 hg3 HTB ho hb hsz hvl
                obtain ⟨G, rfl, hG1, hG2, hfG, hcG⟩ := HTN.out.at
                have hlenv := HTN.out.len
                have hv1 : (vs3.length : Int) - 1 = (J : Int) := by omega
                have hv2 : (J : Int) < (vs3.length : Int) := by omega
                have hv3 : J < vs3.length := by omega
                clear hlenv
                obtain ⟨ga, ea, _, hga, hca, _⟩ := hoA.some (by omega)
                subst ea
                have c0 := hca (I + 0) (by omega)
                have c1 := hca (I + 1) (by omega)
                have c2 := hca (I + 2) (by omega)
                have c3 := hca (I + 3) (by omega)
                rw [q0] at c0
                rw [q1] at c1
                rw [q2] at c2
                rw [q3] at c3
                rw [Nat.add_zero] at c0
                have i1 : (I : Int) + 1 < (r.length : Int) := by omega
                have i2 : (I : Int) + 2 < (r.length : Int) := by omega
                have i3 : (I : Int) + 3 < (r.length : Int) := by omega
                have i0 : (I : Int) < (r.length : Int) := by omega
                clear hca
                have HOA := hide hoA
                have HBA := hide hbA
                have hszW := hbA.size
                clear hoA hbA
                go_wp2_with fail
                go_quiet (fail)
                go_wp2_with (at_builtin; refine wp_appw _ rfl _ _ rfl w3.heap.size none 0 (wrd (LL.getD J []) 0) (by rw [wrd_length]; rfl) (HTN.out.own.2.2.alloc _) _ 1 1 [wd (LL.getD J []) 0] rfl rfl (rowW_lit _ _ _ ?c5) ?c6 ?c7 ?_)
                case c5 => rw [HWD.out, b4_nat]; have := x0.toNat_lt; have := x1.toNat_lt; have := x2.toNat_lt; have := x3.toNat_lt; simp; omega
                case c6 => rw [wrd_length]; first | (simp; done) | (simp; omega)
                case c7 => have := HTN.out.own.2.1; first | (simp; done) | (simp; omega)
                intro a5 c5 r5 w5 hr5 ho5 hg5
                have hmid := TabB.mid (w := w3.drewN nq) HTN.out _ hg5
                obtain ⟨hf5, hc5, HT5⟩ := hmid
                have HTS := hide (TabB.step (w := w3.drewN nq) HTN.out _ hr5.out ho5 hg5)
                have hB5 := HTN.out.own
                have HOB : Hid (OwnB (w5.setCell ⟨G, J, none⟩ (.slice a5 r5.length c5)) w.heap.size (some ⟨ga, 0, none⟩) cap' r) := by
                  have h5 : OwnB w5 w.heap.size (some ⟨ga, 0, none⟩) cap' r := OwnB.kept (w := (w3.drewN nq).alloc _) (HOA.out.alloc _) hg5 (neSym (hB5.2.2.ne HOA.out))
                  exact h5.kept (grownBy_setCell w5 ⟨G, J, none⟩ _) (HT5.out.ne' h5)
                have HBB : Hid (Below w.heap.size w (w5.setCell ⟨G, J, none⟩ (.slice a5 r5.length c5))) := by
                  have h5 : Below w.heap.size w w5 := below_grown ((bdrewN HBA.out nq).alloc HBA.out.size _) hg5 (Nat.le_refl _) (fun k hk => Nat.le_trans hB5.1 (hB5.2.2.lt k hk).1)
                  exact h5.setCell hG2 _
                clear hB5 HT5
                clear hr5 ho5 hg5
                go_wp2
                go_roundw
                case rel =>
                  by_cases hk15 : 0 = 15
                  · exact absurd hk15 (by decide)
                  · exact ⟨J, 0 + 1, I + 4, some ⟨G, 0, none⟩, c3', vs3.set J (a5, 0 + 1, c5), by omega, by omega, (by have hI := HI.out; omega), by go_num, by rw [List.length_set], TabB.more HTS.out (by omega), HOB.out, HBB.out⟩
                case measure => simp [intOf]; omega
              · have t3 : (((4 * k : Nat) : Int) == 0) = false := beq_eq_false_iff_ne.2 (by omega)
                obtain ⟨al, cl, B, hTB⟩ := HTB.out.begun (by omega)
                have HTN := hide hTB
                clear HTB hTB hsz
                obtain ⟨G, rfl, hG1, hG2, hfG, hcG⟩ := HTN.out.at
                have hlenv := HTN.out.len
                have hv1 : (vs.length : Int) - 1 = (J : Int) := by omega
                have hv2 : (J : Int) < (vs.length : Int) := by omega
                have hv3 : J < vs.length := by omega
                clear hlenv
                obtain ⟨ga, ea, _, hga, hca, _⟩ := ho.some (by omega)
                subst ea
                have c0 := hca (I + 0) (by omega)
                have c1 := hca (I + 1) (by omega)
                have c2 := hca (I + 2) (by omega)
                have c3 := hca (I + 3) (by omega)
                rw [q0] at c0
                rw [q1] at c1
                rw [q2] at c2
                rw [q3] at c3
                rw [Nat.add_zero] at c0
                have i1 : (I : Int) + 1 < (r.length : Int) := by omega
                have i2 : (I : Int) + 2 < (r.length : Int) := by omega
                have i3 : (I : Int) + 3 < (r.length : Int) := by omega
                have i0 : (I : Int) < (r.length : Int) := by omega
                clear hca
                have HOA := hide ho
                have HBA := hide hb
                have hszW := hb.size
                clear ho hb
                go_wp2_with fail
                go_quiet (fail)
                go_wp2_with (at_builtin; refine wp_appw _ rfl _ _ rfl B al cl (wrd (LL.getD J []) k) (by rw [wrd_length]; rfl) (HTN.out.own.2.2.alloc _) _ 1 1 [wd (LL.getD J []) k] rfl rfl (rowW_lit _ _ _ ?c5) ?c6 ?c7 ?_)
                case c5 => rw [HWD.out, b4_nat]; have := x0.toNat_lt; have := x1.toNat_lt; have := x2.toNat_lt; have := x3.toNat_lt; simp; omega
                case c6 => rw [wrd_length]; first | (simp; done) | (simp; omega)
                case c7 => have := HTN.out.own.2.1; first | (simp; done) | (simp; omega)
                intro a5 c5 r5 w5 hr5 ho5 hg5
                have hmid := TabB.mid (w := wr.drewN nq) HTN.out _ hg5
                obtain ⟨hf5, hc5, HT5⟩ := hmid
                have HTS := hide (TabB.step (w := wr.drewN nq) HTN.out _ hr5.out ho5 hg5)
                have hB5 := HTN.out.own
                have HOB : Hid (OwnB (w5.setCell ⟨G, J, none⟩ (.slice a5 r5.length c5)) w.heap.size (some ⟨ga, 0, none⟩) cap' r) := by
                  have h5 : OwnB w5 w.heap.size (some ⟨ga, 0, none⟩) cap' r := OwnB.kept (w := (wr.drewN nq).alloc _) (HOA.out.alloc _) hg5 (neSym (hB5.2.2.ne HOA.out))
                  exact h5.kept (grownBy_setCell w5 ⟨G, J, none⟩ _) (HT5.out.ne' h5)
                have HBB : Hid (Below w.heap.size w (w5.setCell ⟨G, J, none⟩ (.slice a5 r5.length c5))) := by
                  have h5 : Below w.heap.size w w5 := below_grown ((bdrewN HBA.out nq).alloc HBA.out.size _) hg5 (Nat.le_refl _) (fun k hk => Nat.le_trans hB5.1 (hB5.2.2.lt k hk).1)
                  exact h5.setCell hG2 _
                clear hB5 HT5
                clear hr5 ho5 hg5
                go_wp2
                go_roundw
                case rel =>
                  by_cases hk15 : k = 15
                  · subst hk15; have hI := HI.out; exact ⟨J + 1, 0, I + 4, some ⟨G, 0, none⟩, co, vs.set J (a5, 16, c5), by omega, by omega, by omega, by go_num, by rw [List.length_set], TabB.done HTS.out (by have := HNB.out; omega), HOB.out, HBB.out⟩
                  · exact ⟨J, k + 1, I + 4, some ⟨G, 0, none⟩, co, vs.set J (a5, k + 1, c5), by omega, by omega, (by have hI := HI.out; omega), by go_num, by rw [List.length_set], TabB.more HTS.out (by omega), HOB.out, HBB.out⟩
                case measure => simp [intOf]; omega
            · obtain rfl : I = r.length := by omega
              obtain rfl : k = 0 := by omega
              obtain rfl : J = nb := by omega
              obtain ⟨fs, B, h1, h2, h3, h4, h5, h6, _⟩ := HTB.out
              obtain rfl := h6 rfl
              obtain ⟨G, rfl, _, _, _, _⟩ := h3.some (by omega)
              have HWK : Hid (WksB w.heap.size wr G LL) := by
                have := h4.wksB (base' := 0) h3
                rw [List.take_of_length_le (by have := HNB.out; omega)] at this
                exact this
              have HV := hide h5
              have HLN := hide hlen
              clear h1 h2 h3 h4 h5 h6 HTB hlen hI ho
              go_wp2
              go_ret
              exact ⟨G, vs.length, co, rfl, by show _ = _; rw [HV.out, HLL.out]; exact HNB.out, by rw [HLL.out]; exact HWK, hb, by rw [HV.out]; omega⟩
        · obtain ⟨q, rfl⟩ : ∃ q, j = q + 1 := ⟨j - 1, by omega⟩
          clear hj0
          go_wp2_with (at_builtin; refine wp_app _ rfl _ _ rfl w.heap.size a' cap' r rfl (ho.alloc _) (some ⟨wr.heap.size, 0, none⟩) 1 [UInt8.ofNat (N / 256 ^ q)] 1 rfl rfl (row_lit _ _ _ ?c1) (fun h => by cases h) ?c2 ?c3 ?_)
          case c1 => exact (shr_byte7 N q).symm
          case c2 => simp; omega
          case c3 => first | omega | (simp; omega)
          intro a3 cap3 r3 w3 hr3 ho3 hg3
          have hb3 : Below w.heap.size w w3 := below_grown (hb.alloc hb.size _) hg3 (Nat.le_refl _) (fun k hk => (ho.lt k hk).1)
          have HR3 : Hid (r3 = (l ++ 128 :: noughts m) ++ be (8 - q) (N / 256 ^ q)) := by
            show _ = _
            have := be_step 8 (q + 1) N (by omega) hj
            rw [Nat.add_sub_cancel] at this
            rw [hr3.out, HR.out, this, List.append_assoc]
          clear hr3 hg3 ho hb HR
          go_wp2
          go_roundw
          case rel => exact ⟨q, a3, cap3, r3, by omega, by go_num, rfl, HR3, ho3, hb3⟩
          case measure => simp [intOf]
theorem blocks_any (a : Option Addr) (cap : Nat) (l : List UInt8) (w : World) (hB : Bs w a cap l) (hl : l.length ≤ 100000) :
    Calls Tryd.prog 44 #[.slice a l.length cap] w fun e w' => ∃ (g n c : Nat), e = .returned (.slice (some ⟨g, 0, none⟩) n c) ∧ Hid (n = (blks (l.length * 8) l).length) ∧ Hid (Wks w' g (blks (l.length * 8) l)) ∧ Hid (Below w.heap.size w w') ∧ n ≤ 10000 := by
  refine (blocks_low a cap l w hB hl).mono ?_
  rintro e w' ⟨g, n, c, rfl, h1, h2, h3, h4⟩
  exact ⟨g, n, c, rfl, h1, h2.out.toWks, h3, h4⟩
#print axioms blocks_any
end Go.Proofs.YtegbcjfceooflaaDoor
end
