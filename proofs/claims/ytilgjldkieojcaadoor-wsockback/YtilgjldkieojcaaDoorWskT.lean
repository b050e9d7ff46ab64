/-
  wsock: what the statements' walks share: Write by a mask of four, Read of what was written.
-/
import Derived.Test.YtilgjldkieojcaaDoorWskS
import Derived.Deep.RegionHeld3
set_option linter.unusedVariables false
set_option maxRecDepth 1000000
namespace Go.Proofs.YtilgjldkieojcaaDoor
open Go.RowKit

/-- The three blocks that come in: a frame, two masks. -/
theorem boxed3 (w : World) (o1 o2 o3 : Obj) : Below w.heap.size w (((w.alloc o1).alloc o2).alloc o3) ∧ (((w.alloc o1).alloc o2).alloc o3).heap[w.heap.size]? = some o1 ∧ (((w.alloc o1).alloc o2).alloc o3).heap[w.heap.size + 1]? = some o2 ∧ (((w.alloc o1).alloc o2).alloc o3).heap[w.heap.size + 1 + 1]? = some o3 ∧ (((w.alloc o1).alloc o2).alloc o3).heap.size = w.heap.size + 3 := by
  have s1 : (w.alloc o1).heap.size = w.heap.size + 1 := by simp
  have s2 : ((w.alloc o1).alloc o2).heap.size = w.heap.size + 1 + 1 := by simp
  have b1 : Below w.heap.size w (w.alloc o1) := (Below.refl _ _).alloc (Nat.le_refl _) _
  have b2 : Below (w.heap.size + 1) (w.alloc o1) ((w.alloc o1).alloc o2) := (Below.refl _ _).alloc (by omega) _
  have b3 : Below (w.heap.size + 1 + 1) ((w.alloc o1).alloc o2) (((w.alloc o1).alloc o2).alloc o3) := (Below.refl _ _).alloc (by omega) _
  have n1 := heap_alloc_new w o1
  have n2 := heap_alloc_new (w.alloc o1) o2
  have n3 := heap_alloc_new ((w.alloc o1).alloc o2) o3
  rw [s1] at n2
  rw [s2] at n3
  exact ⟨(b1.trans (b2.mono (by omega))).trans (b3.mono (by omega)), (b3.block _ (by omega)).trans ((b2.block _ (by omega)).trans n1), (b3.block _ (by omega)).trans n2, n3, by simp⟩

theorem wr4 (fin : Bool) (op : Int) (x : Option Addr) (c : Nat) (l : List UInt8) (b : Nat) (P : List UInt8) (hP : P.length = 4) (w : World) (hL : Bs w x c l) (hM : Bs w (some ⟨b, 0, none⟩) 4 P) :
    Calls Tryd.prog 6 #[.agg #[.bool fin, .int .i64 op, .slice x l.length c], .slice (some ⟨b, 0, none⟩) 4 4] w fun e w' => ∃ a' c' r, e = .returned (.tuple #[.slice a' r.length c', .int .i64 (wrE op fin P l)]) ∧ Hid (r = wrR op fin P l) ∧ Hid (OwnB w' w.heap.size a' c' r) ∧ Hid (Below w.heap.size w w') := by
  have h := write_any op fin x c l (some ⟨b, 0, none⟩) 4 P w hL hM
  rw [hP] at h
  exact h
theorem wrE_four (op : Int) (fin : Bool) (P Q l : List UInt8) (hP : P.length = 4) (hQ : Q.length = 4) : wrE op fin P l = wrE op fin Q l := by
  unfold wrE
  simp only [hP, hQ, or_true, if_true]
theorem wrE_zero {op : Int} {fin : Bool} {P l : List UInt8} (h : wrE op fin P l = 0) : (P = [] ∨ P.length = 4) ∧ mayB op fin (l.length : Int) = true ∧ l.length ≤ 16384 := by
  unfold wrE at h
  split at h
  · rename_i h1
    split at h
    · rename_i h2
      split at h
      · rename_i h3
        exact ⟨h1, h2, h3⟩
      · omega
    · omega
  · omega
theorem wrR_zero {op : Int} {fin : Bool} {P l : List UInt8} (h : wrE op fin P l = 0) : wrR op fin P l = wrB op.toNat fin P l := by unfold wrR; rw [if_pos h]
theorem wrB_len (n : Nat) (fin : Bool) (m l : List UInt8) : (wrB n fin m l).length = 1 + (if l.length ≤ 125 then 1 else 3) + m.length + l.length := by
  have := xm_length m l
  unfold wrB hd2
  split <;> simp [this] <;> omega
/-- Read of what Write wrote, whatever stands behind. -/
theorem rd_wr (op : Int) (fin : Bool) (P l Z : List UInt8) (hE : wrE op fin P l = 0) (a : Option Addr) (c : Nat) (r : List UInt8) (hr : r = wrR op fin P l ++ Z) (w : World) (hB : Bs w a c r) :
    Calls Tryd.prog 7 #[.slice a r.length c, .bool (decide (P.length = 4))] w fun e w' => ∃ a' c', e = .returned (.tuple #[.agg #[.bool fin, .int .i64 op, .slice a' l.length c'], .int .i64 (((wrR op fin P l).length : Nat) : Int), .int .i64 0]) ∧ Hid (OwnB w' w.heap.size a' c' l) ∧ Hid (Below w.heap.size w w') := by
  obtain ⟨hm, hmay, hl⟩ := wrE_zero hE
  obtain ⟨n, rfl, hn⟩ := mayB_op hmay
  rw [wrR_zero hE, Int.toNat_natCast] at hr ⊢
  obtain ⟨hy, he, hf, ho, hL⟩ := rd_back n fin P l Z hn hm hmay hl
  rw [← hr] at hy he hf ho hL
  refine (rd_any a c r (decide (P.length = 4)) w hB).mono ?_
  rintro e w' ⟨hb, ⟨hy', _⟩ | ⟨_, a', c', r', rfl, hr', ho'⟩⟩
  · exact absurd hy (unhide hy')
  · have hr2 := unhide hr'
    rw [hL] at hr2
    subst hr2
    rw [hf, ho, he]
    exact ⟨a', c', rfl, ho', hb⟩
theorem rd_wr4 (op : Int) (fin : Bool) (P l : List UInt8) (hP : P.length = 4) (hE : wrE op fin P l = 0) (a : Option Addr) (c : Nat) (r : List UInt8) (hr : r = wrR op fin P l) (w : World) (hB : Bs w a c r) :
    Calls Tryd.prog 7 #[.slice a r.length c, .bool true] w fun e w' => ∃ a' c', e = .returned (.tuple #[.agg #[.bool fin, .int .i64 op, .slice a' l.length c'], .int .i64 ((r.length : Nat) : Int), .int .i64 0]) ∧ Hid (OwnB w' w.heap.size a' c' l) ∧ Hid (Below w.heap.size w w') := by
  have h := rd_wr op fin P l [] hE a c r (by rw [hr]; simp) w hB
  rw [decide_eq_true hP, ← hr] at h
  exact h
theorem wrR_len4 (op : Int) (fin : Bool) (P Q l : List UInt8) (hP : P.length = 4) (hQ : Q.length = 4) : (wrR op fin P l).length = (wrR op fin Q l).length := by
  unfold wrR
  rw [wrE_four op fin P Q l hP hQ]
  split
  · rw [wrB_len, wrB_len, hP, hQ]
  · rfl
#print axioms rd_wr
end Go.Proofs.YtilgjldkieojcaaDoor
