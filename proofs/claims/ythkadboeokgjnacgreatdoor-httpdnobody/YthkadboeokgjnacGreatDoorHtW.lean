/-
  httpd's reader: a byte of a head.
-/
import Derived.Test.YthkadboeokgjnacGreatDoorHtT
import Derived.Test.YthkadboeokgjnacGreatDoorSlcX
import Derived.Deep.RegionHeld3
import Derived.Deep.RegionLaw
import Derived.Deep.DeepCutAuto
set_option linter.unusedVariables false
set_option maxRecDepth 1000000
namespace Go.Proofs.YthkadboeokgjnacGreatDoor
open Go.RowKit

/-- Does a list end with another one? -/
def sufB (l s : List UInt8) : Bool := decide (s.length ≤ l.length) && (l.drop (l.length - s.length) == s)
theorem sufB_iff (l s : List UInt8) : sufB l s = decide (s <:+ l) := by
  unfold sufB
  by_cases h : s <:+ l
  · rw [decide_eq_true h, decide_eq_true h.length_le]
    obtain ⟨t, rfl⟩ := h
    simp
  · rw [decide_eq_false h]
    by_cases h1 : s.length ≤ l.length
    · rw [decide_eq_true h1, Bool.true_and, beq_eq_false_iff_ne]
      intro e
      exact h ⟨l.take (l.length - s.length), by conv => lhs; rw [← e]
                                                rw [List.length_drop, show l.length - (l.length - (l.length - s.length)) = l.length - s.length by omega]; exact List.take_append_drop _ _⟩
    · rw [decide_eq_false h1]; rfl
set_option maxHeartbeats 1000000 in
theorem hasSuffix_any (a1 : Option Addr) (c1 : Nat) (l1 : List UInt8) (a2 : Option Addr) (c2 : Nat) (l2 : List UInt8) (w : World) (h1 : Bs w a1 c1 l1) (h2 : Bs w a2 c2 l2) :
    Calls Tryz.prog 20 #[.slice a1 l1.length c1, .slice a2 l2.length c2] w fun e w' => e = .returned (.bool (decide (l2 <:+ l1))) ∧ w' = w := by
  have hm := h1.most
  have hl := h1.le
  unfold maxLen at hm
  rw [← sufB_iff]
  have HS : Hid (sufB l1 l2 = (decide (l2.length ≤ l1.length) && (l1.drop (l1.length - l2.length) == l2))) := rfl
  by_cases hle : l2.length ≤ l1.length
  · have hle' : ((l2.length : Nat) : Int) ≤ (l1.length : Int) := by omega
    rw [decide_eq_true hle, Bool.true_and] at HS
    obtain ⟨E, hE⟩ : ∃ E, l1.length - l2.length = E := ⟨_, rfl⟩
    have hE2 : (l1.length : Int) - (l2.length : Int) = (E : Int) := by omega
    have hEl : E ≤ l1.length := by omega
    rw [hE] at HS
    obtain ⟨xh, hh, hhB, -⟩ := cut_tail a1 c1 E l1 hl hEl (fun h => by obtain ⟨b, off, e, _⟩ := h1.row h; exact ⟨b, off, e⟩)
    have hh1 := hh w
    have HB := hide (hhB w h1)
    have H2 := hide h2
    clear hh hhB h1 h2 hle hE
    go_enter Tryz.func20, Tryz.ntmps20
    go_wp2_with fail
    refine (equal_any xh (l1.length - E) (c1 - E) (l1.drop E) a2 l2.length c2 l2 w (unhide HB).row (unhide H2).row (by simp) rfl).mono ?_
    rintro e w' ⟨rfl, rfl⟩
    rw [← unhide HS]
    go_wp2
    go_ret
    exact ⟨rfl, rfl⟩
  · have hle' : ¬ ((l2.length : Nat) : Int) ≤ (l1.length : Int) := by omega
    have HF : Hid (sufB l1 l2 = false) := by show _ = _; rw [unhide HS, decide_eq_false hle]; rfl
    clear hle HS h1 h2
    go_enter Tryz.func20, Tryz.ntmps20
    go_wp2
    go_ret
    exact ⟨by rw [unhide HF]; rfl, rfl⟩
#print axioms hasSuffix_any

set_option maxHeartbeats 1000000 in
theorem bytes_zero (w : World) (r : Nat) :
    Calls Tryz.prog 25 #[pt r, .int .i64 0, .func (.func 26) #[pt r] #[]] w fun e w' => e = .returned (.int .i64 0) ∧ Hid (Below w.heap.size w w') := by
  obtain ⟨V, hV, hb, hs, b0, b1, b2⟩ := three w (pt r) (.int .i64 0) (.func (.func 26) #[pt r] #[]) 24 3 37
  have c1 := b1.cell
  have c2 := b2.cell
  have HB := hide hb
  clear b0 b1 b2 hb
  go_enter Tryz.func25, Tryz.ntmps25
  go_upto_region 1 with fail
  rw [← hV]
  clear hV
  go_wp2_with (go_at_call 26; refine (end_any V r).mono ?_; rintro e w2 ⟨rfl, rfl⟩)
  go_ret
  exact ⟨rfl, HB⟩

/-- What readHead answers. -/
def RHs (E : World → Prop) (R : HdM) : Prop := ∀ (h : List UInt8) (w : World), h.length ≤ 8192 → E w → Calls Tryz.prog 23 #[.string (str h)] w fun e w' => ∃ hp hc,
  e = .returned (.tuple #[.agg #[.string (str (R h).1.m), .string (str (R h).1.p), .slice hp (R h).1.h.length hc, .slice none 0 0], .agg #[.bool (R h).2.1.c, .int .i64 ((R h).2.1.n : Int)], .int .i64 ((R h).2.2 : Int)]) ∧
  Hid (HdR w' hp (R h).1.h) ∧ Hid (∀ k, blk hp = some k → w.heap.size ≤ k ∧ k < w'.heap.size) ∧ Hid (Below w.heap.size w w')

theorem request_set {w V V2 : World} {g : Nat → Nat} {r : Nat} {tk : Value} {Q Q' : Rq} {hp : Option Addr} {hc : Nat} {bp : Option Addr} {bc : Nat} {hp' : Option Addr} {hc' : Nat} (h : RdB w g r tk Q hp hc bp bc) (hb : Below w.heap.size w V)
    (hH : HdR V hp' Q'.h) (hk : ∀ k, blk hp' = some k → w.heap.size ≤ k ∧ k < V.heap.size) (hQ : Q'.b = [])
    (hV : V2 = (((V.setCell ⟨r, 1, none⟩ (.string (str Q'.m))).setCell ⟨r, 2, none⟩ (.string (str Q'.p))).setCell ⟨r, 3, none⟩ (.slice hp' Q'.h.length hc')).setCell ⟨r, 4, none⟩ (.slice none 0 0)) :
    ∃ g', RdB V2 g' r tk Q' hp' hc' none 0 ∧ Kp w V2 (fun k => g k ≠ 0) ∧ ∀ k, k < w.heap.size → g' k = g k := by
  have hr := h.lt
  have hbs := hb.size
  have ne : ∀ k, k ≠ r → V2.heap[k]? = V.heap[k]? := fun k hk => by
    rw [hV, Below.heap_setCell _ ⟨r, 4, none⟩ _ k hk, Below.heap_setCell _ ⟨r, 3, none⟩ _ k hk, Below.heap_setCell _ ⟨r, 2, none⟩ _ k hk, Below.heap_setCell _ ⟨r, 1, none⟩ _ k hk]
  have hsz : V2.heap.size = V.heap.size := by rw [hV]; simp [World.setCell]
  have hrow := (hb.block r hr).trans h.row
  refine ⟨fun k => if k < w.heap.size then g k else if blk hp' = some k then 4 else 0, ⟨?_, ?_, ?_, ?_, ?_, ?_, ?_, ?_⟩, ?_, ?_⟩
  · intro k hk2
    rw [hsz]
    by_cases h1 : k < w.heap.size
    · omega
    · simp only [if_neg h1] at hk2
      by_cases h2 : blk hp' = some k
      · exact (hk k h2).2
      · simp [h2] at hk2
  · simp only [if_pos hr]; exact h.tag
  · rw [hV, heap_setCell_same _ r 4 _ _ _ (heap_setCell_same _ r 3 _ _ _ (heap_setCell_same _ r 2 _ _ _ (heap_setCell_same _ r 1 _ _ _ hrow))), hQ]
    rfl
  · exact hH.same (fun k hk2 _ => ne k (by rintro rfl; have := (hk k hk2).1; omega))
  · intro k hk2
    have := (hk k hk2).1
    simp only [if_neg (show ¬ k < w.heap.size by omega), if_pos hk2]
  · rw [hQ]; exact OwnB.nil _ _
  · intro k hk2; cases hk2
  · rw [hQ]; simp
  · have k1 : Kp w V (fun k => g k ≠ 0) := Kp.of hb
    refine ⟨?_, ?_, ?_, ?_, fun k hk2 hn => ?_⟩
    · rw [hV]; exact k1.os
    · rw [hV]; exact k1.tape
    · rw [hV]; exact k1.output
    · rw [hsz]; exact k1.size
    · exact (ne k (by rintro rfl; exact hn (by rw [h.tag]; decide))).trans (k1.block k hk2 hn)
  · intro k hk2
    simp only [if_pos hk2]

set_option maxHeartbeats 4000000 in
theorem behindHead_any (E : World → Prop) (R : HdM) (hR : RHs E R) (hok : Rok R) (w : World) (g : Nat → Nat) (r : Nat) (tk : Value) (Q : Rq) (hp : Option Addr) (hc : Nat) (bp : Option Addr) (bc : Nat) (x : List UInt8) (h : RdB w g r tk Q hp hc bp bc) (hE : E w) (hx : x.length ≤ 8192) :
    Calls Tryz.prog 21 #[pt r, .string (str x)] w fun e w' => Ret w g r (bhM R Q x) e w' := by
  have HR := hide (hR x w hx hE)
  have HH := hide h
  have hrl := h.lt
  have HOK := hide (hok x)
  obtain ⟨⟨Q', F, st⟩, hy⟩ : ∃ y, R x = y := ⟨_, rfl⟩
  have HB : Hid (bhM R Q x = if st ≠ 0 then (st, .head x, Q) else if F.c then (1, .chunk 0 0, Q') else if F.n = 0 then (0, .head x, Q') else (1, .bytes F.n .fin, Q')) := by
    show _ = _
    unfold bhM
    rw [hy]
  rw [hy] at HR HOK
  clear hR hok h hE hy
  obtain ⟨fc, fn⟩ := F
  simp only at HR HB HOK
  have hfn : fn ≤ 32768 := (unhide HOK).2.1
  by_cases hst : st = 0
  · subst hst
    go_enter Tryz.func21, Tryz.ntmps21
    go_wp2_with fail
    refine (unhide HR).mono ?_
    rintro e w1 ⟨hp', hc', rfl, HH1, HK1, HB1⟩
    obtain ⟨V, hV⟩ : ∃ V, V = (w1.alloc (.cells #[.string (str Q'.m), .string (str Q'.p), .slice hp' Q'.h.length hc', .slice none 0 0] 30)).alloc (.cells #[.bool fc, .int .i64 (fn : Int)] 57) := ⟨_, rfl⟩
    have hbV : Below w1.heap.size w1 V := by rw [hV]; exact ((Below.refl _ _).alloc (Nat.le_refl _) _).alloc (by simp) _
    have hrV : V.heap[w1.heap.size]? = some (.cells #[.string (str Q'.m), .string (str Q'.p), .slice hp' Q'.h.length hc', .slice none 0 0] 30 (0, 0)) := by
      rw [hV, Below.heap_alloc _ _ _ (by simp)]; exact heap_alloc_new w1 _
    have hfV : V.heap[w1.heap.size + 1]? = some (.cells #[.bool fc, .int .i64 (fn : Int)] 57 (0, 0)) := by
      have := heap_alloc_new (w1.alloc (.cells #[.string (str Q'.m), .string (str Q'.p), .slice hp' Q'.h.length hc', .slice none 0 0] 30)) (.cells #[.bool fc, .int .i64 (fn : Int)] 57)
      rw [← hV] at this
      rw [← this]; simp
    have hb : Below w.heap.size w V := (unhide HB1).trans (hbV.mono (unhide HB1).size)
    have hrow := (hb.block r hrl).trans (unhide HH).row
    have a0 : V.cell? ⟨w1.heap.size, 0, none⟩ = some (.string (str Q'.m)) := by rw [cell_of_row V _ 0 _ _ _ hrV]; rfl
    have a1 : V.cell? ⟨w1.heap.size, 1, none⟩ = some (.string (str Q'.p)) := by rw [cell_of_row V _ 1 _ _ _ hrV]; rfl
    have a2 : V.cell? ⟨w1.heap.size, 2, none⟩ = some (.slice hp' Q'.h.length hc') := by rw [cell_of_row V _ 2 _ _ _ hrV]; rfl
    have a3 : V.cell? ⟨w1.heap.size, 3, none⟩ = some (.slice none 0 0) := by rw [cell_of_row V _ 3 _ _ _ hrV]; rfl
    have r1 : V.cell? ⟨r, 1, none⟩ = some (.string (str Q.m)) := by rw [cell_of_row V r 1 _ _ _ hrow]; rfl
    have r2 : V.cell? ⟨r, 2, none⟩ = some (.string (str Q.p)) := by rw [cell_of_row V r 2 _ _ _ hrow]; rfl
    have r3 : V.cell? ⟨r, 3, none⟩ = some (.slice hp Q.h.length hc) := by rw [cell_of_row V r 3 _ _ _ hrow]; rfl
    have r4 : V.cell? ⟨r, 4, none⟩ = some (.slice bp Q.b.length bc) := by rw [cell_of_row V r 4 _ _ _ hrow]; rfl
    have z1 := frozen_of_row V r 1 _ _ hrow
    have z2 := frozen_of_row V r 2 _ _ hrow
    have z3 := frozen_of_row V r 3 _ _ hrow
    have z4 := frozen_of_row V r 4 _ _ hrow
    obtain ⟨V2, hV2⟩ : ∃ V2, V2 = (((V.setCell ⟨r, 1, none⟩ (.string (str Q'.m))).setCell ⟨r, 2, none⟩ (.string (str Q'.p))).setCell ⟨r, 3, none⟩ (.slice hp' Q'.h.length hc')).setCell ⟨r, 4, none⟩ (.slice none 0 0) := ⟨_, rfl⟩
    obtain ⟨g', k1, k2, k3⟩ := request_set (Q' := Q') (unhide HH) hb ((unhide HH1).below hbV (Nat.le_refl _)) (fun k hk => ⟨((unhide HK1) k hk).1, Nat.lt_of_lt_of_le ((unhide HK1) k hk).2 hbV.size⟩) (unhide HOK).1 hV2
    have hs1 := (unhide HB1).size
    have hf2 : V2.heap[w1.heap.size + 1]? = some (.cells #[.bool fc, .int .i64 (fn : Int)] 57 (0, 0)) := by
      rw [hV2, Below.heap_setCell _ ⟨r, 4, none⟩ _ _ (show w1.heap.size + 1 ≠ r by omega), Below.heap_setCell _ ⟨r, 3, none⟩ _ _ (show w1.heap.size + 1 ≠ r by omega), Below.heap_setCell _ ⟨r, 2, none⟩ _ _ (show w1.heap.size + 1 ≠ r by omega), Below.heap_setCell _ ⟨r, 1, none⟩ _ _ (show w1.heap.size + 1 ≠ r by omega)]
      exact hfV
    have b0 : V2.cell? ⟨w1.heap.size + 1, 0, none⟩ = some (.bool fc) := by rw [cell_of_row V2 _ 0 _ _ _ hf2]; rfl
    have b1 : V2.cell? ⟨w1.heap.size + 1, 1, none⟩ = some (.int .i64 (fn : Int)) := by rw [cell_of_row V2 _ 1 _ _ _ hf2]; rfl
    have HG := hide k1
    have HK := hide k2
    have HO : Hid (∀ k, k < w.heap.size → g k = 0 → g' k = 0) := fun k hk h0 => by rw [k3 k hk]; exact h0
    clear hrV hfV hrow hb hbV HH1 HK1 k1 k2 k3 hf2 hs1
    go_upto_region 4 with fail
    rw [← hV]
    clear hV
    go_upto_region 5 with fail
    rw [← hV2]
    clear hV2 a0 a1 a2 a3 r1 r2 r3 r4 z1 z2 z3 z4
    cases fc with
    | true =>
      have HS : Hid (bhM R Q x = (1, .chunk 0 0, Q')) := by show _ = _; rw [unhide HB]; simp
      have HC := hide (chunk_any V2 g' r tk Q' hp' hc' none 0 (unhide HG))
      go_wp2_with (go_at_call 24; refine (unhide HC).mono ?_; rintro e w2 ⟨rfl, hr2⟩)
      go_ret
      rw [unhide HS]
      exact Ret.behind (unhide HK) (unhide HO) (Res.ret (x := (1, .chunk 0 0)) ⟨rfl, hr2⟩)
    | false =>
      by_cases h0 : fn = 0
      · subst h0
        have HS : Hid (bhM R Q x = (0, .head x, Q')) := by show _ = _; rw [unhide HB]; simp
        go_wp2_with (go_at_call 25; refine (bytes_zero V2 r).mono ?_; rintro e w2 ⟨rfl, hb2⟩)
        go_ret
        rw [unhide HS]
        exact Ret.behind (unhide HK) (unhide HO) (Res.ret (x := (0, .head x)) (Res.none (unhide HG) (unhide hb2) 0 _ (by decide)))
      · have HS : Hid (bhM R Q x = (1, .bytes fn .fin, Q')) := by show _ = _; rw [unhide HB]; simp [h0]
        have HC := hide (bytes_any V2 g' r tk (.func (.func 26) #[pt r] #[]) .fin fn Q' hp' hc' none 0 (unhide HG) rfl (by omega) (by omega))
        clear h0
        go_wp2_with (go_at_call 25; refine (unhide HC).mono ?_; rintro e w2 ⟨rfl, hr2⟩)
        go_ret
        rw [unhide HS]
        exact Ret.behind (unhide HK) (unhide HO) (Res.ret (x := (1, .bytes fn .fin)) ⟨rfl, hr2⟩)
  · have hst' : ((st : Int) != 0) = true := by simp; omega
    have HS : Hid (bhM R Q x = (st, .head x, Q)) := by show _ = _; rw [unhide HB, if_pos hst]
    have h1 : st ≠ 1 := (unhide HOK).2.2
    clear hst HB
    go_enter Tryz.func21, Tryz.ntmps21
    go_wp2_with fail
    refine (unhide HR).mono ?_
    rintro e w1 ⟨hp', hc', rfl, HH1, HK1, HB1⟩
    go_wp2
    go_ret
    rw [unhide HS]
    exact Res.ret (x := (st, .head x)) (Res.none (unhide HH) ((unhide HB1).trans ((((Below.refl _ _).alloc (Nat.le_refl _) _).alloc (by simp) _).mono (unhide HB1).size)) st _ h1)
#print axioms behindHead_any
end Go.Proofs.YthkadboeokgjnacGreatDoor
