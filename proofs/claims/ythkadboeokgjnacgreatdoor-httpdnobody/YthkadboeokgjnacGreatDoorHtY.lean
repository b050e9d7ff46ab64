/-
  httpd: a new reader; bytes that it takes; Parse.
-/
import Derived.Test.YthkadboeokgjnacGreatDoorHtU
import Derived.Test.YthkadboeokgjnacGreatDoorHtV
import Derived.Test.YthkadboeokgjnacGreatDoorHtX
set_option linter.unusedVariables false
set_option maxRecDepth 1000000
namespace Go.Proofs.YthkadboeokgjnacGreatDoor
open Go.RowKit

theorem two (w : World) (a b : Value) (A B : TypeId) : ∃ V, V = ((w.alloc (.cells #[a] A)).alloc (.cells #[b] B)) ∧ Below w.heap.size w V ∧ V.heap.size = w.heap.size + 2 ∧ Bx V w.heap.size a ∧ Bx V (w.heap.size + 1) b := by
  refine ⟨_, rfl, (((Below.refl _ _).alloc (Nat.le_refl _) _).alloc (by simp) _), by simp, ?_, ?_⟩
  · exact (Bx.new w a A).of (by rw [Below.heap_alloc _ _ _ (by simp)])
  · have := Bx.new (w.alloc (.cells #[a] A)) b B
    rw [show (w.alloc (.cells #[a] A)).heap.size = w.heap.size + 1 by simp] at this
    exact this
set_option maxHeartbeats 1000000 in
theorem head_any (w : World) (g : Nat → Nat) (r : Nat) (tk : Value) (Q : Rq) (hp : Option Addr) (hc : Nat) (bp : Option Addr) (bc : Nat) (h : RdB w g r tk Q hp hc bp bc) :
    Calls Tryz.prog 17 #[pt r] w fun e w' => Res w g r (1, .head []) Q hp hc bp bc e w' := by
  obtain ⟨V, hV, hb, hs, b0, b1⟩ := two w (pt r) (.slice none 0 0) 24 22
  have hr := h.lt
  have HG := hide (goOn_any V g r tk (.func 19) #[] #[pt (w.heap.size + 1), pt w.heap.size] Q hp hc bp bc (h.below hb))
  have HE : Hid (Rsx w g r (1, .head []) Q hp hc bp bc (V.setCell ⟨r, 0, none⟩ (.func (.func 19) #[] #[pt (w.heap.size + 1), pt w.heap.size]))) := by
    have h0 : RdB V (tagN g w.heap.size [6, 2]) r tk Q hp hc bp bc := (h.below hb).same (tagN_inb g _ _ _ (by simp; omega)) (fun k hk => ⟨rfl, tagN_old _ _ _ _ (h.inb k (by rcases hk with e | e | e <;> omega))⟩)
    obtain ⟨v, hv⟩ : ∃ v, v = (Value.func (.func 19) #[] #[pt (w.heap.size + 1), pt w.heap.size]) := ⟨_, rfl⟩
    rw [← hv]
    have ne : ∀ k, k ≠ r → (V.setCell ⟨r, 0, none⟩ v).heap[k]? = V.heap[k]? := fun k hk => Below.heap_setCell V ⟨r, 0, none⟩ v k hk
    have n0 := tagN_new g w.heap.size [6, 2] 0
    have n1 := tagN_new g w.heap.size [6, 2] 1
    refine ⟨_, v, h0.take v, fun _ => ⟨w.heap.size + 1, w.heap.size, none, 0, hv, b1.of (ne _ (by omega)), n1, OwnB.nil _ _, fun k hk => (by cases hk), b0.of (ne _ (by omega)), n0, by decide⟩, ?_, fun k hk h0 => by rw [tagN_old _ _ _ _ hk]; exact h0⟩
    exact (Kp.of hb : Kp w V _).trans (Kp.ofG (gsc V ⟨r, 0, none⟩ v) (fun k hk => by cases hk; rw [h.tag]; decide))
  have c0 := b0.cell
  clear b0 b1 hb h
  go_enter Tryz.func17, Tryz.ntmps17
  go_upto_region 2 with fail
  rw [← hV]
  clear hV
  go_wp2_with (go_at_call 18; refine (unhide HG).mono ?_; rintro e w2 ⟨rfl, rfl⟩)
  go_ret
  exact ⟨rfl, HE⟩
#print axioms head_any
set_option maxHeartbeats 1000000 in
theorem newReader_any (w : World) :
    Calls Tryz.prog 16 #[] w fun e w' => ∃ r g, e = .returned (pt r) ∧ Hid (Rd w' g r (.head []) Rq.nil) ∧ Hid (∀ k, g k ≠ 0 → w.heap.size ≤ k) ∧ Hid (Below w.heap.size w w') := by
  obtain ⟨V, hV⟩ : ∃ V, V = w.alloc (.cells #[.nilFunc, .string (str Rq.nil.m), .string (str Rq.nil.p), .slice none 0 0, .slice none 0 0] 45) := ⟨_, rfl⟩
  have hb : Below w.heap.size w V := by rw [hV]; exact (Below.refl _ _).alloc (Nat.le_refl _) _
  have hs : V.heap.size = w.heap.size + 1 := by rw [hV]; simp
  have hR : RdB V (tagN (fun _ => 0) w.heap.size [1]) w.heap.size .nilFunc Rq.nil none 0 none 0 := by
    refine ⟨tagN_inb _ _ _ _ (by simp; omega), tagN_new (fun _ => 0) w.heap.size [1] 0, ?_, ⟨fun h => absurd rfl h, Nat.zero_le _⟩, fun k hk => (by cases hk), OwnB.nil _ _, fun k hk => (by cases hk), by simp [Rq.nil]⟩
    rw [hV]; exact heap_alloc_new w _
  have HC := hide (head_any V _ w.heap.size .nilFunc Rq.nil none 0 none 0 hR)
  have HB := hide hb
  have HS := hide hs
  have HV : Hid (V = w.alloc (.cells #[.nilFunc, .string ⟨#[]⟩, .string ⟨#[]⟩, .slice none 0 0, .slice none 0 0] 45)) := hV
  clear hb hs hR hV
  go_enter Tryz.func16, Tryz.ntmps16
  go_upto_region 2 with fail
  rw [← unhide HV]
  go_wp2_with (go_at_call 17; refine (unhide HC).mono ?_; rintro e w2 ⟨rfl, hr2⟩)
  go_ret
  obtain ⟨g', tk', k1, k2, k3, k4⟩ := unhide hr2
  refine ⟨w.heap.size, g', rfl, ⟨tk', none, 0, none, 0, k1, k2 rfl⟩, fun k hk => ?_, ?_⟩
  · apply Classical.byContradiction
    intro hlt
    refine hk (k4 k (by have := unhide HS; omega) ?_)
    rw [tagN_old _ _ _ _ (by omega)]
  · refine Kp.below (unhide HB) k3 (unhide HB).size (fun j hj => ?_)
    apply Classical.byContradiction
    intro hlt
    refine hj ?_
    rw [tagN_old _ _ _ _ (by omega)]
#print axioms newReader_any

/-- The bytes that are taken so far. -/
structure RuI (R : HdM) (E : World → Prop) (B : Nat) (w wr : World) (g : Nat → Nat) (r : Nat) (S : St) (Q : Rq) (l : List UInt8) (k : Nat) (g' : Nat → Nat) (S' : St) (Q' : Rq) : Prop where
  rd : Rd wr g' r S' Q'
  ok : okQ S' Q'
  env : E wr
  kp : Kp w wr (fun k => g k ≠ 0)
  old : ∀ k, k < w.heap.size → g k = 0 → g' k = 0
  low : ∀ k, g' k ≠ 0 → B ≤ k
  eq : runM R S Q l = ((runM R S' Q' (l.drop k)).1 + k, (runM R S' Q' (l.drop k)).2)
theorem RuI.next {R : HdM} {E : World → Prop} {B : Nat} {w wr w' : World} {g : Nat → Nat} {r : Nat} {S : St} {Q : Rq} {l : List UInt8} {k : Nat} {g' : Nat → Nat} {S' : St} {Q' : Rq} (h : RuI R E B w wr g r S Q l k g' S' Q') (hR : Rok R) (hEK : EK E B) (hB : B ≤ w.heap.size) (c : UInt8) (hc : l[k]? = some c)
    (h1 : (stepM R S' Q' c).1 = 1) (ht : Rtx wr g' r (stepM R S' Q' c) w') : ∃ g2, RuI R E B w w' g r S Q l (k + 1) g2 (stepM R S' Q' c).2.1 (stepM R S' Q' c).2.2 := by
  obtain ⟨g2, tk2, p1, p2, p3, p4, k1, k2, k3, k4⟩ := ht
  have hkl := (List.getElem?_eq_some_iff.1 hc).1
  refine ⟨g2, ⟨tk2, p1, p2, p3, p4, k1, k2 h1⟩, okQ_step R hR _ _ c h.ok h1, hEK.kp h.env (Nat.le_trans hB h.kp.size) h.low k3, h.kp.trans' k3 (fun i hi hs hz => hs (h.old i hi hz)), fun i hi hz => k4 i (Nat.lt_of_lt_of_le hi h.kp.size) (h.old i hi hz), fun i hi => ?_, ?_⟩
  · by_cases hl : i < wr.heap.size
    · exact h.low i (fun e => hi (k4 i hl e))
    · have := h.kp.size; omega
  · have e := h.eq
    have hd : l.drop k = c :: l.drop (k + 1) := by
      rw [List.drop_eq_getElem_cons hkl]
      congr 1
      have := List.getElem?_eq_getElem hkl
      rw [this] at hc; exact Option.some.inj hc
    rw [hd, runM_one R S' Q' c _ h1] at e
    rw [e, Nat.add_assoc, Nat.add_comm 1 k]
theorem RuI.last {R : HdM} {E : World → Prop} {B : Nat} {w wr w' : World} {g : Nat → Nat} {r : Nat} {S : St} {Q : Rq} {l : List UInt8} {k : Nat} {g' : Nat → Nat} {S' : St} {Q' : Rq} (h : RuI R E B w wr g r S Q l k g' S' Q') (c : UInt8) (hc : l[k]? = some c)
    (h1 : (stepM R S' Q' c).1 ≠ 1) (ht : Rtx wr g' r (stepM R S' Q' c) w') : runM R S Q l = (k + 1, stepM R S' Q' c) ∧ Rtx w g r (stepM R S' Q' c) w' := by
  have hkl := (List.getElem?_eq_some_iff.1 hc).1
  constructor
  · have e := h.eq
    have hd : l.drop k = c :: l.drop (k + 1) := by
      rw [List.drop_eq_getElem_cons hkl]
      congr 1
      have := List.getElem?_eq_getElem hkl
      rw [this] at hc; exact Option.some.inj hc
    rw [hd, runM_end R S' Q' c _ h1] at e
    rw [e, Nat.add_comm 1 k]
  · have := Ret.behind h.kp h.old (show Ret wr g' r (stepM R S' Q' c) _ w' from ⟨rfl, ht⟩)
    exact this.2
theorem RuI.more {R : HdM} {E : World → Prop} {B : Nat} {w wr : World} {g : Nat → Nat} {r : Nat} {S : St} {Q : Rq} {l : List UInt8} {g' : Nat → Nat} {S' : St} {Q' : Rq} (h : RuI R E B w wr g r S Q l l.length g' S' Q') : runM R S Q l = (l.length, 1, S', Q') ∧ Rtx w g r (1, S', Q') wr := by
  constructor
  · have e := h.eq
    rw [List.drop_length] at e
    rw [e]
    simp [runM]
  · obtain ⟨tk, p1, p2, p3, p4, k1, k2⟩ := h.rd
    exact ⟨g', tk, p1, p2, p3, p4, k1, fun _ => k2, h.kp, h.old⟩

set_option maxHeartbeats 8000000 in
theorem run_any (E : World → Prop) (B : Nat) (hEK : EK E B) (R : HdM) (hR : RHs E R) (hok : Rok R) (w : World) (g : Nat → Nat) (r : Nat) (S : St) (Q : Rq) (x : Option Addr) (cx : Nat) (l : List UInt8) (hr : Rd w g r S Q) (hq : okQ S Q) (hE : E w) (hB : B ≤ w.heap.size) (hgB : ∀ k, g k ≠ 0 → B ≤ k) (hx : Bs w x cx l) (hxg : l ≠ [] → ∀ k, blk x = some k → g k = 0) (hl : l.length ≤ 100000000) :
    Calls Tryz.prog 12 #[pt r, .slice x l.length cx] w fun e w' => e = .returned (.tuple #[.int .i64 ((runM R S Q l).1 : Int), .int .i64 ((runM R S Q l).2.1 : Int)]) ∧ Hid (Rtx w g r (runM R S Q l).2 w') := by
  have HI0 : Hid (RuI R E B w w g r S Q l 0 g S Q) := ⟨hr, hq, hE, Kp.of (Below.refl _ _), fun _ _ h => h, hgB, by simp⟩
  have HX := hide hx
  have HXG := hide hxg
  have HEK := hide hEK
  have HRR := hide (show RHs E R ∧ Rok R from ⟨hR, hok⟩)
  clear hr hq hE hgB hx hxg hEK hR hok
  go_enter Tryz.func12, Tryz.ntmps12
  go_wp2
  go_loopw [11] (fun i wr => ∃ k : Nat, k ≤ l.length ∧ i = .int .i64 (k : Int) ∧ ∃ g' S' Q', Hid (RuI R E B w wr g r S Q l k g' S' Q')) (fun i _ => l.length - (intOf i).toNat)
  case atStart => exact ⟨0, Nat.zero_le _, rfl, g, S, Q, HI0⟩
  case round =>
    clear HI0
    obtain ⟨k, hk, rfl, g', S', Q', HI⟩ := hrel
    by_cases hlt : k < l.length
    · have hlt' : (k : Int) < (l.length : Int) := by omega
      obtain ⟨c, hc⟩ : ∃ c, l[k]? = some c := ⟨_, List.getElem?_eq_getElem hlt⟩
      have hxr : Bs wr x cx l := (unhide HI).kp.bs (unhide HX) (fun j hj => by rw [unhide HXG (fun e => by subst e; simp at *) j hj]; simp)
      obtain ⟨bb, off, hxe, hcell⟩ := hxr.row (by intro e; subst e; simp at hlt)
      have hck := hcell k hlt
      rw [show l.getD k 0 = c by rw [List.getD_eq_getElem?_getD, hc]; rfl] at hck
      subst hxe
      clear hcell hxr
      obtain ⟨tk, hp, hcc, bp, bc, hrd, hst⟩ := (unhide HI).rd
      have c0 : wr.cell? ⟨r, 0, none⟩ = some tk := by rw [cell_of_row wr r 0 _ _ _ hrd.row]; rfl
      have HC : Hid (l[k]? = some c) := hc
      have hqq := (unhide HI).ok
      have hEw := (unhide HI).env
      have hBw : B ≤ wr.heap.size := Nat.le_trans hB (unhide HI).kp.size
      have hlow := (unhide HI).low
      cases S' with
      | head h0 =>
        obtain ⟨a, b, y, cy, rfl, q1, q2, q3, q4, q5, q6, q7⟩ := hst
        have HT := hide (take_head E B (unhide HEK) R (unhide HRR).1 (unhide HRR).2 wr g' r _ h0 Q' hp hcc bp bc c a b y cy hrd q1 q2 q3 q4 q5 q6 q7 hEw hBw hlow rfl)
        obtain ⟨X, hX⟩ : ∃ X, stepM R (.head h0) Q' c = X := ⟨_, rfl⟩
        by_cases h1 : X.1 = 1
        · have HN : Hid (∀ w', Rtx wr g' r X w' → ∃ g2, RuI R E B w w' g r S Q l (k + 1) g2 X.2.1 X.2.2) := fun w' ht => by
            rw [← hX] at h1 ht ⊢
            exact (unhide HI).next (unhide HRR).2 (unhide HEK) hB c (unhide HC) h1 ht
          have HT1 : Hid (Calls Tryz.prog 19 _ wr fun e w' => e = .returned (.int .i64 1) ∧ Hid (Rtx wr g' r X w')) := (unhide HT).mono (fun e w' hh => by rw [hX] at hh; exact ⟨by rw [hh.1, h1]; rfl, hh.2⟩)
          clear HT h1 hX hrd hqq hEw hBw hlow q1 q2 q3 q4 q5 q6 q7 hc
          go_wp2_with (go_at_call 19; refine (unhide HT1).mono ?_; rintro e w2 ⟨rfl, hr2⟩)
          obtain ⟨g2, hg2⟩ := unhide HN _ (unhide hr2)
          go_roundw
          case rel => exact ⟨k + 1, by omega, by go_num, g2, _, _, hg2⟩
          case measure => simp [intOf]; omega
        · have HN : Hid (∀ w', Rtx wr g' r X w' → runM R S Q l = (k + 1, X) ∧ Rtx w g r X w') := fun w' ht => by
            rw [← hX] at h1 ht ⊢
            exact (unhide HI).last c (unhide HC) h1 ht
          obtain ⟨st, hst2⟩ : ∃ st, X.1 = st := ⟨_, rfl⟩
          have hne : ((st : Int) != 1) = true := by simp; omega
          have HT1 : Hid (Calls Tryz.prog 19 _ wr fun e w' => e = .returned (.int .i64 (st : Int)) ∧ Hid (Rtx wr g' r X w')) := (unhide HT).mono (fun e w' hh => by rw [hX] at hh; exact ⟨by rw [hh.1, hst2], hh.2⟩)
          have HST := hide hst2
          clear HT h1 hX hrd hqq hEw hBw hlow q1 q2 q3 q4 q5 q6 q7 hc hst2
          go_wp2_with (go_at_call 19; refine (unhide HT1).mono ?_; rintro e w2 ⟨rfl, hr2⟩)
          go_ret2
          obtain ⟨e1, e2⟩ := unhide HN _ (unhide hr2)
          refine ⟨?_, ?_⟩
          · rw [e1]; show Ending.returned (.tuple #[.int .i64 ((k : Int) + 1), .int .i64 (st : Int)]) = Ending.returned (.tuple #[.int .i64 ((k + 1 : Nat) : Int), .int .i64 (X.1 : Int)]); rw [unhide HST]; rfl
          · rw [e1]; exact e2
      | bytes n t =>
        obtain ⟨a, b, d, tv, rfl, q1, q2, q3, q4, q5, q6, q7, q8, q9⟩ := hst
        have HT := hide (take_bytes R wr g' r _ n t Q' hp hcc bp bc c a b d tv hrd q1 q2 q3 q4 q5 q6 q7 q8 q9 hqq.2 rfl)
        obtain ⟨X, hX⟩ : ∃ X, stepM R (.bytes n t) Q' c = X := ⟨_, rfl⟩
        by_cases h1 : X.1 = 1
        · have HN : Hid (∀ w', Rtx wr g' r X w' → ∃ g2, RuI R E B w w' g r S Q l (k + 1) g2 X.2.1 X.2.2) := fun w' ht => by
            rw [← hX] at h1 ht ⊢
            exact (unhide HI).next (unhide HRR).2 (unhide HEK) hB c (unhide HC) h1 ht
          have HT1 : Hid (Calls Tryz.prog 37 _ wr fun e w' => e = .returned (.int .i64 1) ∧ Hid (Rtx wr g' r X w')) := (unhide HT).mono (fun e w' hh => by rw [hX] at hh; exact ⟨by rw [hh.1, h1]; rfl, hh.2⟩)
          clear HT h1 hX hrd hqq hEw hBw hlow q1 q2 q3 q4 q5 q6 q7 q8 q9 hc
          go_wp2_with (go_at_call 37; refine (unhide HT1).mono ?_; rintro e w2 ⟨rfl, hr2⟩)
          obtain ⟨g2, hg2⟩ := unhide HN _ (unhide hr2)
          go_roundw
          case rel => exact ⟨k + 1, by omega, by go_num, g2, _, _, hg2⟩
          case measure => simp [intOf]; omega
        · have HN : Hid (∀ w', Rtx wr g' r X w' → runM R S Q l = (k + 1, X) ∧ Rtx w g r X w') := fun w' ht => by
            rw [← hX] at h1 ht ⊢
            exact (unhide HI).last c (unhide HC) h1 ht
          obtain ⟨st, hst2⟩ : ∃ st, X.1 = st := ⟨_, rfl⟩
          have hne : ((st : Int) != 1) = true := by simp; omega
          have HT1 : Hid (Calls Tryz.prog 37 _ wr fun e w' => e = .returned (.int .i64 (st : Int)) ∧ Hid (Rtx wr g' r X w')) := (unhide HT).mono (fun e w' hh => by rw [hX] at hh; exact ⟨by rw [hh.1, hst2], hh.2⟩)
          have HST := hide hst2
          clear HT h1 hX hrd hqq hEw hBw hlow q1 q2 q3 q4 q5 q6 q7 q8 q9 hc hst2
          go_wp2_with (go_at_call 37; refine (unhide HT1).mono ?_; rintro e w2 ⟨rfl, hr2⟩)
          go_ret2
          obtain ⟨e1, e2⟩ := unhide HN _ (unhide hr2)
          refine ⟨?_, ?_⟩
          · rw [e1]; show Ending.returned (.tuple #[.int .i64 ((k : Int) + 1), .int .i64 (st : Int)]) = Ending.returned (.tuple #[.int .i64 ((k + 1 : Nat) : Int), .int .i64 (X.1 : Int)]); rw [unhide HST]; rfl
          · rw [e1]; exact e2
      | text u i t =>
        obtain ⟨a, b, d, tv, rfl, q1, q2, q3, q4, q5, q6, q7, q8, q9⟩ := hst
        have HT := hide (take_text R wr g' r _ u i t Q' hp hcc bp bc c a b d tv hrd q1 q2 q3 q4 q5 q6 q7 q8 q9 hqq rfl)
        obtain ⟨X, hX⟩ : ∃ X, stepM R (.text u i t) Q' c = X := ⟨_, rfl⟩
        by_cases h1 : X.1 = 1
        · have HN : Hid (∀ w', Rtx wr g' r X w' → ∃ g2, RuI R E B w w' g r S Q l (k + 1) g2 X.2.1 X.2.2) := fun w' ht => by
            rw [← hX] at h1 ht ⊢
            exact (unhide HI).next (unhide HRR).2 (unhide HEK) hB c (unhide HC) h1 ht
          have HT1 : Hid (Calls Tryz.prog 52 _ wr fun e w' => e = .returned (.int .i64 1) ∧ Hid (Rtx wr g' r X w')) := (unhide HT).mono (fun e w' hh => by rw [hX] at hh; exact ⟨by rw [hh.1, h1]; rfl, hh.2⟩)
          clear HT h1 hX hrd hqq hEw hBw hlow q1 q2 q3 q4 q5 q6 q7 q8 q9 hc
          go_wp2_with (go_at_call 52; refine (unhide HT1).mono ?_; rintro e w2 ⟨rfl, hr2⟩)
          obtain ⟨g2, hg2⟩ := unhide HN _ (unhide hr2)
          go_roundw
          case rel => exact ⟨k + 1, by omega, by go_num, g2, _, _, hg2⟩
          case measure => simp [intOf]; omega
        · have HN : Hid (∀ w', Rtx wr g' r X w' → runM R S Q l = (k + 1, X) ∧ Rtx w g r X w') := fun w' ht => by
            rw [← hX] at h1 ht ⊢
            exact (unhide HI).last c (unhide HC) h1 ht
          obtain ⟨st, hst2⟩ : ∃ st, X.1 = st := ⟨_, rfl⟩
          have hne : ((st : Int) != 1) = true := by simp; omega
          have HT1 : Hid (Calls Tryz.prog 52 _ wr fun e w' => e = .returned (.int .i64 (st : Int)) ∧ Hid (Rtx wr g' r X w')) := (unhide HT).mono (fun e w' hh => by rw [hX] at hh; exact ⟨by rw [hh.1, hst2], hh.2⟩)
          have HST := hide hst2
          clear HT h1 hX hrd hqq hEw hBw hlow q1 q2 q3 q4 q5 q6 q7 q8 q9 hc hst2
          go_wp2_with (go_at_call 52; refine (unhide HT1).mono ?_; rintro e w2 ⟨rfl, hr2⟩)
          go_ret2
          obtain ⟨e1, e2⟩ := unhide HN _ (unhide hr2)
          refine ⟨?_, ?_⟩
          · rw [e1]; show Ending.returned (.tuple #[.int .i64 ((k : Int) + 1), .int .i64 (st : Int)]) = Ending.returned (.tuple #[.int .i64 ((k + 1 : Nat) : Int), .int .i64 (X.1 : Int)]); rw [unhide HST]; rfl
          · rw [e1]; exact e2
      | chunk n d =>
        obtain ⟨a, b, e, rfl, q1, q2, q3, q4, q5, q6, q7, q8⟩ := hst
        have HT := hide (take_chunk R wr g' r _ n d Q' hp hcc bp bc c a b e hrd q1 q2 q3 q4 q5 q6 q7 q8 rfl)
        obtain ⟨X, hX⟩ : ∃ X, stepM R (.chunk n d) Q' c = X := ⟨_, rfl⟩
        by_cases h1 : X.1 = 1
        · have HN : Hid (∀ w', Rtx wr g' r X w' → ∃ g2, RuI R E B w w' g r S Q l (k + 1) g2 X.2.1 X.2.2) := fun w' ht => by
            rw [← hX] at h1 ht ⊢
            exact (unhide HI).next (unhide HRR).2 (unhide HEK) hB c (unhide HC) h1 ht
          have HT1 : Hid (Calls Tryz.prog 32 _ wr fun e w' => e = .returned (.int .i64 1) ∧ Hid (Rtx wr g' r X w')) := (unhide HT).mono (fun e w' hh => by rw [hX] at hh; exact ⟨by rw [hh.1, h1]; rfl, hh.2⟩)
          clear HT h1 hX hrd hqq hEw hBw hlow q1 q2 q3 q4 q5 q6 q7 q8 hc
          go_wp2_with (go_at_call 32; refine (unhide HT1).mono ?_; rintro e w2 ⟨rfl, hr2⟩)
          obtain ⟨g2, hg2⟩ := unhide HN _ (unhide hr2)
          go_roundw
          case rel => exact ⟨k + 1, by omega, by go_num, g2, _, _, hg2⟩
          case measure => simp [intOf]; omega
        · have HN : Hid (∀ w', Rtx wr g' r X w' → runM R S Q l = (k + 1, X) ∧ Rtx w g r X w') := fun w' ht => by
            rw [← hX] at h1 ht ⊢
            exact (unhide HI).last c (unhide HC) h1 ht
          obtain ⟨st, hst2⟩ : ∃ st, X.1 = st := ⟨_, rfl⟩
          have hne : ((st : Int) != 1) = true := by simp; omega
          have HT1 : Hid (Calls Tryz.prog 32 _ wr fun e w' => e = .returned (.int .i64 (st : Int)) ∧ Hid (Rtx wr g' r X w')) := (unhide HT).mono (fun e w' hh => by rw [hX] at hh; exact ⟨by rw [hh.1, hst2], hh.2⟩)
          have HST := hide hst2
          clear HT h1 hX hrd hqq hEw hBw hlow q1 q2 q3 q4 q5 q6 q7 q8 hc hst2
          go_wp2_with (go_at_call 32; refine (unhide HT1).mono ?_; rintro e w2 ⟨rfl, hr2⟩)
          go_ret2
          obtain ⟨e1, e2⟩ := unhide HN _ (unhide hr2)
          refine ⟨?_, ?_⟩
          · rw [e1]; show Ending.returned (.tuple #[.int .i64 ((k : Int) + 1), .int .i64 (st : Int)]) = Ending.returned (.tuple #[.int .i64 ((k + 1 : Nat) : Int), .int .i64 (X.1 : Int)]); rw [unhide HST]; rfl
          · rw [e1]; exact e2
    · have hlt' : ¬ (k : Int) < (l.length : Int) := by omega
      obtain rfl : k = l.length := by omega
      have HM := hide ((unhide HI).more)
      clear hlt
      go_wp2
      go_ret2
      obtain ⟨e1, e2⟩ := unhide HM
      exact ⟨by rw [e1]; rfl, by rw [e1]; exact e2⟩
#print axioms run_any
end Go.Proofs.YthkadboeokgjnacGreatDoor
