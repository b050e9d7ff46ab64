/-
  httpd: an answer's head read (readAnswer).; httpd: Read, the answer with which bytes begin.; httpd: an answer's lines, as mathematics (P8.8).; httpd: a number's digits are read as it was; an answer's head is its lines (P8.8).; httpd: what Write writes is what Read reads (P8.8), as mathematics.; httpd's reference: an answer's head, as mathematics; what Read says is one thing.
-/
import Derived.Test.YtonaekkenggmbaaGreatDoorPkHadsbk
import Derived.Test.YtonaekkenggmbaaGreatDoorPkHadsbm
import Derived.Test.YtonaekkenggmbaaGreatDoorPkHadsap
import Derived.Test.YtonaekkenggmbaaGreatDoorPkHadsbd
import Derived.Test.YtonaekkenggmbaaGreatDoorPkHadsav
import Derived.Test.YtonaekkenggmbaaGreatDoorPkHadsbh
section
set_option linter.unusedVariables false
set_option maxRecDepth 1000000
namespace Go.Proofs.YtonaekkenggmbaaGreatDoor
open Go.RowKit

theorem set3a (w : World) (R : Nat) (a0 a1 a2 v0 v1 v2 : Value) (T : TypeId) (h : w.heap[R]? = some (.cells #[a0, a1, a2] T (0, 0))) :
    (((w.setCell ⟨R, 0, none⟩ v0).setCell ⟨R, 1, none⟩ v1).setCell ⟨R, 2, none⟩ v2).heap[R]? = some (.cells #[v0, v1, v2] T (0, 0)) ∧ (∀ k, k ≠ R → (((w.setCell ⟨R, 0, none⟩ v0).setCell ⟨R, 1, none⟩ v1).setCell ⟨R, 2, none⟩ v2).heap[k]? = w.heap[k]?) ∧ ∀ (w0 : World) (B : Nat), Below B w0 w → B ≤ R → Below B w0 (((w.setCell ⟨R, 0, none⟩ v0).setCell ⟨R, 1, none⟩ v1).setCell ⟨R, 2, none⟩ v2) := by
  have hs : ∀ k, k ≠ R → (((w.setCell ⟨R, 0, none⟩ v0).setCell ⟨R, 1, none⟩ v1).setCell ⟨R, 2, none⟩ v2).heap[k]? = w.heap[k]? := fun k hk => by
    rw [Below.heap_setCell _ ⟨R, 2, none⟩ _ k hk, Below.heap_setCell _ ⟨R, 1, none⟩ _ k hk, Below.heap_setCell _ ⟨R, 0, none⟩ _ k hk]
  refine ⟨by rw [heap_setCell_same _ _ 2 _ _ _ (heap_setCell_same _ _ 1 _ _ _ (heap_setCell_same _ _ 0 _ _ _ h))]; rfl, hs, fun w0 B hb hB => ⟨hb.os, hb.tape, hb.output, by simp [World.setCell]; exact hb.size, fun k hk => (hs k (by omega)).trans (hb.block k hk)⟩⟩
theorem headS (a : Option Addr) (n cap k : Nat) (L : List (List UInt8)) (hk : k ≤ L.length) (hle : L.length ≤ cap) :
    ∃ a', (∀ w, (Instr.slice 85 (.slice a n cap) none (some (.int .i64 (k : Int))) none).run Tryz.prog w = .ok (.slice a' k cap) w) ∧ (∀ w, NsO w a L → NsO w a' (L.take k)) := by
  refine ⟨if cap = 0 then a else a.map (·.add (0 * 1)), fun w => ?_, fun w h => ⟨fun hne => ?_⟩⟩
  · rw [run_slice_h (P := Tryz.prog) w 85 _ n cap Tryz.elemT .i64 (k : Int) (by omega) (by omega), Tryz.sizeT]
    simp only [Result.andThen, sliced, Int.toNat_natCast, Nat.sub_zero]
  · have hL : L ≠ [] := by intro e; subst e; simp at hne
    obtain ⟨b, off, rfl, hc⟩ := h.mem hL
    have hc0 : ¬ cap = 0 := by have := List.length_pos_iff.2 hL; omega
    refine ⟨b, off, by rw [if_neg hc0, Option.map_some, Nat.zero_mul, addr_add, Nat.add_zero], fun t x hx => hc t x ?_⟩
    rw [List.getElem?_take] at hx
    split at hx
    · exact hx
    · cases hx
/-- What an answer's head says. -/
def RA (hd : List UInt8) (s : Int) (H : List Hd) (n : Nat) : Prop :=
  ∃ l0 rest, Lib.split hd [13, 10] = l0 :: rest ∧ reM s ≠ [] ∧ l0 = stL s ∧ rest.length ≤ 32 ∧ ((s = 101 ∧ n = 0 ∧ ohM rest [] = some H) ∨ (s ≠ 101 ∧ ∃ last, rest.getLast? = some last ∧ olM last = some n ∧ ohM (rest.take (rest.length - 1)) [] = some H))
def RAs (hd : List UInt8) (s : Int) (H : List Hd) (n : Nat) (b : Bool) : Prop := (b = true → RA hd s H n) ∧ (b = false → ∀ s H n, ¬ RA hd s H n)
def RaP (hd : List UInt8) (w : World) (e : Ending) (w' : World) : Prop := ∃ (s : Int) (H : List Hd) (n : Nat) (b : Bool) (hp : Option Addr) (hc : Nat), e = .returned (.tuple #[.agg #[.int .i64 s, .slice hp H.length hc, .slice none 0 0], .int .i64 (n : Int), .bool b]) ∧ Hid (RAs hd s H n b) ∧ Hid (HdR w' hp H ∧ ∀ k, blk hp = some k → w.heap.size ≤ k ∧ k < w'.heap.size) ∧ Hid (Below w.heap.size w w')
theorem RaP.mk {hd : List UInt8} {w : World} {e : Ending} {w' : World} (s : Int) (H : List Hd) (n : Nat) (b : Bool) (hp : Option Addr) (hc : Nat) (he : e = .returned (.tuple #[.agg #[.int .i64 s, .slice hp H.length hc, .slice none 0 0], .int .i64 (n : Int), .bool b])) (h1 : Hid (RAs hd s H n b)) (h2 : Hid (HdR w' hp H ∧ ∀ k, blk hp = some k → w.heap.size ≤ k ∧ k < w'.heap.size)) (h3 : Hid (Below w.heap.size w w')) : RaP hd w e w' := ⟨s, H, n, b, hp, hc, he, h1, h2, h3⟩
set_option maxHeartbeats 4000000 in
theorem readAnswer_any (hd : List UInt8) (w : World) (hl : hd.length ≤ 10000) (hE : EnvH w) (hR : Rx w) (hP : P10 w) :
    Calls Tryz.prog 65 #[.string (str hd)] w (RaP hd w) := by
  obtain ⟨V, hV⟩ : ∃ V, V = w.alloc (.cells #[.int .i64 0, .slice none 0 0, .slice none 0 0] 58) := ⟨_, rfl⟩
  have HBV : Hid (Below w.heap.size w V) := by rw [hV]; exact (Below.refl _ _).alloc (Nat.le_refl _) _
  have HRV : Hid (V.heap[w.heap.size]? = some (.cells #[.int .i64 0, .slice none 0 0, .slice none 0 0] 58 (0, 0))) := by rw [hV]; exact heap_alloc_new w _
  have HSP : Hid (Calls Tryz.prog 88 #[.string (str hd), .string ⟨#[13, 10]⟩] V fun e w' => ∃ b c L, e = .returned (.slice (some ⟨b, 0, none⟩) L.length c) ∧ Hid (L = Lib.split hd [13, 10]) ∧ L.length ≤ c ∧ 1 ≤ L.length ∧ L.length ≤ 1000001 ∧ Hid (∀ x ∈ L, x.length ≤ hd.length) ∧ Hid (NsO w' (some ⟨b, 0, none⟩) L) ∧ Hid (Below V.heap.size V w')) := split_gen hd [13, 10] V (by omega) (hE.1.below (unhide HBV) (Nat.le_refl _)) (by decide)
  have HEE : Hid (EnvH w ∧ Rx w ∧ P10 w) := ⟨hE, hR, hP⟩
  clear hE hR hP
  go_enter Tryz.func65, Tryz.ntmps65
  go_upto_region 1 with fail
  rw [← hV]
  clear hV
  go_wp2_with fail
  refine (unhide HSP).mono ?_
  rintro e w1 ⟨b, c, L, rfl, HL, hLc, hL1, hL6, HLX, HN1', HB1'⟩
  have HB1 : Hid (Below w.heap.size w w1) := (unhide HBV).trans ((unhide HB1').mono (unhide HBV).size)
  have HR1 : Hid (w1.heap[w.heap.size]? = some (.cells #[.int .i64 0, .slice none 0 0, .slice none 0 0] 58 (0, 0))) := ((unhide HB1').block _ (Array.getElem?_eq_some_iff.1 (unhide HRV)).1).trans (unhide HRV)
  have HN1 := HN1'
  clear HSP HB1' HN1' HBV HRV
  obtain ⟨l0, rest, hLE⟩ : ∃ l0 rest, L = l0 :: rest := by
    cases L with
    | nil => simp at hL1
    | cons a r => exact ⟨a, r, rfl⟩
  have HL0 : Hid (l0 :: rest = Lib.split hd [13, 10]) := by rw [← hLE]; exact HL
  have d0 : w1.cell? ⟨b, 0, none⟩ = some (.string (str l0)) := by
    obtain ⟨b', off, he, hcl⟩ := (unhide HN1).mem (by rw [hLE]; simp)
    simp only [Option.some.injEq, Addr.mk.injEq, and_true] at he
    obtain ⟨rfl, rfl⟩ := he
    have := hcl 0 l0 (by rw [hLE]; rfl)
    simpa using this
  have hl0 : l0.length ≤ 10000 := Nat.le_trans (unhide HLX l0 (by rw [hLE]; simp)) hl
  have HXL0 : Hid (∀ x ∈ rest, x.length ≤ 1000000) := fun x hx => by have := unhide HLX x (by rw [hLE]; simp [hx]); omega
  obtain ⟨a1, ht1, ht2⟩ := tail1 b c L hL1 hLc
  have hdr : L.drop 1 = rest := by rw [hLE]; rfl
  rw [hdr] at ht1 ht2
  have ht1' : ∀ w, (Instr.slice 85 (.slice (some ⟨b, 0, none⟩) L.length c) (some (.int .i64 1)) none none).run Tryz.prog w = .ok (.slice a1 rest.length (c - 1)) w := fun w => ht1 w
  have HT2 : Hid (∀ w, NsO w (some ⟨b, 0, none⟩) L → NsO w a1 rest) := fun w h => ht2 w h
  have hrl1 : rest.length + 1 = L.length := by rw [hLE]; rfl
  have hrl : rest.length ≤ 1000000 := by omega
  have hrc : rest.length ≤ c - 1 := by omega
  have hpos : (0 : Int) < (L.length : Int) := by omega
  have hone : (1 : Int) ≤ (L.length : Int) := by omega
  clear hdr hLE hrl1 HL
  obtain ⟨cr, hcr⟩ : ∃ cr, cr = c - 1 := ⟨_, rfl⟩
  obtain ⟨m, hm⟩ : ∃ m, m = rest.length := ⟨_, rfl⟩
  rw [← hcr, ← hm] at ht1'
  rw [← hcr] at hrc
  have HM := hide hm
  clear hcr
  have HRS := hide (readStatus_any l0 w1 (by omega) ((unhide HEE).1.below (unhide HB1)) ((unhide HEE).2.1.below (unhide HB1)) ((unhide HEE).2.2.below (unhide HB1)))
  have hm6 : m ≤ 1000000 := by omega
  have hmc : m ≤ cr := by omega
  clear ht1 ht2 hL1 hLc hL6 HLX hm hrl hrc
  go_wp2_with fail
  refine (unhide HRS).mono ?_
  rintro e w2 ⟨s, b0, rfl, HS0, HB2'⟩
  have HB2 : Hid (Below w.heap.size w w2) := (unhide HB1).trans ((unhide HB2').mono (unhide HB1).size)
  have HR2 : Hid (w2.heap[w.heap.size]? = some (.cells #[.int .i64 0, .slice none 0 0, .slice none 0 0] 58 (0, 0))) := ((unhide HB2').block _ (Array.getElem?_eq_some_iff.1 (unhide HR1)).1).trans (unhide HR1)
  have HN2 := hide ((unhide HN1).below (unhide HB2') (Nat.le_refl _))
  have HNr := hide (unhide HT2 _ (unhide HN2))
  clear HRS HB2' HB1 HR1 HN1 d0 HN2 HT2
  cases b0 with
  | false =>
    have z0 : w2.cell? ⟨w.heap.size, 0, none⟩ = some (.int .i64 0) := cell_of_row _ _ _ _ _ _ (unhide HR2)
    have f0 := frozen_of_row w2 w.heap.size 0 _ _ (unhide HR2)
    have z1 : w2.cell? ⟨w.heap.size, 1, none⟩ = some (.slice none 0 0) := cell_of_row _ _ _ _ _ _ (unhide HR2)
    have f1 := frozen_of_row w2 w.heap.size 1 _ _ (unhide HR2)
    have z2 : w2.cell? ⟨w.heap.size, 2, none⟩ = some (.slice none 0 0) := cell_of_row _ _ _ _ _ _ (unhide HR2)
    have f2 := frozen_of_row w2 w.heap.size 2 _ _ (unhide HR2)
    obtain ⟨X, hX⟩ : ∃ X, X = ((w2.setCell ⟨w.heap.size, 0, none⟩ (.int .i64 0)).setCell ⟨w.heap.size, 1, none⟩ (.slice none 0 0)).setCell ⟨w.heap.size, 2, none⟩ (.slice none 0 0) := ⟨_, rfl⟩
    obtain ⟨s1, s2, s3⟩ := set3a w2 w.heap.size _ _ _ (.int .i64 0) (.slice none 0 0) (.slice none 0 0) _ (unhide HR2)
    rw [← hX] at s1 s2 s3
    have q0 : X.cell? ⟨w.heap.size, 0, none⟩ = some (.int .i64 0) := cell_of_row _ _ _ _ _ _ s1
    have q1 : X.cell? ⟨w.heap.size, 1, none⟩ = some (.slice none 0 0) := cell_of_row _ _ _ _ _ _ s1
    have q2 : X.cell? ⟨w.heap.size, 2, none⟩ = some (.slice none 0 0) := cell_of_row _ _ _ _ _ _ s1
    have HBX : Hid (Below w.heap.size w X) := s3 w _ (unhide HB2) (Nat.le_refl _)
    have HFF : Hid (RAs hd 0 [] 0 false) := ⟨fun h => (by cases h), fun _ s' H' n' hra => by
      obtain ⟨l0', rest', e1, e2, e3, e4, e5⟩ := hra
      have e6 := (unhide HL0).trans e1
      simp only [List.cons.injEq] at e6
      obtain ⟨rfl, rfl⟩ := e6
      have := (unhide HS0).2 s' e2 e3
      exact absurd this.1 (by decide)⟩
    have HHX : Hid (HdR X none [] ∧ ∀ k, blk none = some k → w.heap.size ≤ k ∧ k < X.heap.size) := ⟨⟨fun h => absurd rfl h, Nat.zero_le _⟩, fun k hk => by simp [blk] at hk⟩
    clear s1 s2 s3
    go_wp2_with fail
    rw [← hX]
    refine bodyPost_ret (v := .tuple #[.agg #[.int .i64 0, .slice none 0 0, .slice none 0 0], .int .i64 0, .bool false]) (by simp [results, Tryz.results65, go_sem, q0, q1, q2]) rfl ?_
    exact RaP.mk 0 [] 0 false none 0 rfl HFF HHX HBX
  | true =>
  by_cases h32 : 32 < m
  · have h32' : (32 : Int) < (m : Int) := by omega
    have z0 : w2.cell? ⟨w.heap.size, 0, none⟩ = some (.int .i64 0) := cell_of_row _ _ _ _ _ _ (unhide HR2)
    have f0 := frozen_of_row w2 w.heap.size 0 _ _ (unhide HR2)
    have z1 : w2.cell? ⟨w.heap.size, 1, none⟩ = some (.slice none 0 0) := cell_of_row _ _ _ _ _ _ (unhide HR2)
    have f1 := frozen_of_row w2 w.heap.size 1 _ _ (unhide HR2)
    have z2 : w2.cell? ⟨w.heap.size, 2, none⟩ = some (.slice none 0 0) := cell_of_row _ _ _ _ _ _ (unhide HR2)
    have f2 := frozen_of_row w2 w.heap.size 2 _ _ (unhide HR2)
    obtain ⟨X, hX⟩ : ∃ X, X = ((w2.setCell ⟨w.heap.size, 0, none⟩ (.int .i64 0)).setCell ⟨w.heap.size, 1, none⟩ (.slice none 0 0)).setCell ⟨w.heap.size, 2, none⟩ (.slice none 0 0) := ⟨_, rfl⟩
    obtain ⟨s1, s2, s3⟩ := set3a w2 w.heap.size _ _ _ (.int .i64 0) (.slice none 0 0) (.slice none 0 0) _ (unhide HR2)
    rw [← hX] at s1 s2 s3
    have q0 : X.cell? ⟨w.heap.size, 0, none⟩ = some (.int .i64 0) := cell_of_row _ _ _ _ _ _ s1
    have q1 : X.cell? ⟨w.heap.size, 1, none⟩ = some (.slice none 0 0) := cell_of_row _ _ _ _ _ _ s1
    have q2 : X.cell? ⟨w.heap.size, 2, none⟩ = some (.slice none 0 0) := cell_of_row _ _ _ _ _ _ s1
    have HBX : Hid (Below w.heap.size w X) := s3 w _ (unhide HB2) (Nat.le_refl _)
    have HFF : Hid (RAs hd 0 [] 0 false) := ⟨fun h => (by cases h), fun _ s' H' n' hra => by
      obtain ⟨l0', rest', e1, e2, e3, e4, e5⟩ := hra
      have e6 := (unhide HL0).trans e1
      simp only [List.cons.injEq] at e6
      obtain ⟨rfl, rfl⟩ := e6
      have := unhide HM
      omega⟩
    have HHX : Hid (HdR X none [] ∧ ∀ k, blk none = some k → w.heap.size ≤ k ∧ k < X.heap.size) := ⟨⟨fun h => absurd rfl h, Nat.zero_le _⟩, fun k hk => by simp [blk] at hk⟩
    clear s1 s2 s3
    go_wp2_with fail
    rw [← hX]
    refine bodyPost_ret (v := .tuple #[.agg #[.int .i64 0, .slice none 0 0, .slice none 0 0], .int .i64 0, .bool false]) (by simp [results, Tryz.results65, go_sem, q0, q1, q2]) rfl ?_
    exact RaP.mk 0 [] 0 false none 0 rfl HFF HHX HBX
  have h32' : ¬ (32 : Int) < (m : Int) := by omega
  have HXL := HXL0
  by_cases h101 : s = 101
  · have h101b : (s != 101) = false := by rw [h101]; rfl
    have HNx := HNr
    have hm32 : m ≤ 32 := by omega
    have hrm : rest.length ≤ 1000 := by rw [← unhide HM]; omega
    have H101 := hide h101
    clear h101 h32
    have HOH := hide (ownHeaders_any a1 cr rest w2 (unhide HNx) (fun x hx => unhide HXL x hx) (by omega) ((unhide HEE).1.1.below (unhide HB2) (Nat.le_refl _)))
    rw [← unhide HM] at HOH
    go_wp2_with fail
    refine (unhide HOH).mono ?_
    rintro e w9 ⟨ah, ch, H, bh, rfl, HOM, HOW, HB9'⟩
    have HB9 : Hid (Below w.heap.size w w9) := (unhide HB2).trans ((unhide HB9').mono (unhide HB2).size)
    have HR9 : Hid (w9.heap[w.heap.size]? = some (.cells #[.int .i64 0, .slice none 0 0, .slice none 0 0] 58 (0, 0))) := ((unhide HB9').block _ (Array.getElem?_eq_some_iff.1 (unhide HR2)).1).trans (unhide HR2)
    have HHW : Hid (∀ k, blk ah = some k → w.heap.size < k) := fun k hk => Nat.lt_of_lt_of_le (Array.getElem?_eq_some_iff.1 (unhide HR2)).1 ((unhide HOW).lt k hk).1
    clear HOH
    have z0 : w9.cell? ⟨w.heap.size, 0, none⟩ = some (.int .i64 0) := cell_of_row _ _ _ _ _ _ (unhide HR9)
    have f0 := frozen_of_row w9 w.heap.size 0 _ _ (unhide HR9)
    have z1 : w9.cell? ⟨w.heap.size, 1, none⟩ = some (.slice none 0 0) := cell_of_row _ _ _ _ _ _ (unhide HR9)
    have f1 := frozen_of_row w9 w.heap.size 1 _ _ (unhide HR9)
    have z2 : w9.cell? ⟨w.heap.size, 2, none⟩ = some (.slice none 0 0) := cell_of_row _ _ _ _ _ _ (unhide HR9)
    have f2 := frozen_of_row w9 w.heap.size 2 _ _ (unhide HR9)
    obtain ⟨X, hX⟩ : ∃ X, X = ((w9.setCell ⟨w.heap.size, 0, none⟩ (.int .i64 s)).setCell ⟨w.heap.size, 1, none⟩ (.slice ah H.length ch)).setCell ⟨w.heap.size, 2, none⟩ (.slice none 0 0) := ⟨_, rfl⟩
    obtain ⟨s1, s2, s3⟩ := set3a w9 w.heap.size _ _ _ (.int .i64 s) (.slice ah H.length ch) (.slice none 0 0) _ (unhide HR9)
    rw [← hX] at s1 s2 s3
    have q0 : X.cell? ⟨w.heap.size, 0, none⟩ = some (.int .i64 s) := cell_of_row _ _ _ _ _ _ s1
    have q1 : X.cell? ⟨w.heap.size, 1, none⟩ = some (.slice ah H.length ch) := cell_of_row _ _ _ _ _ _ s1
    have q2 : X.cell? ⟨w.heap.size, 2, none⟩ = some (.slice none 0 0) := cell_of_row _ _ _ _ _ _ s1
    have HBX : Hid (Below w.heap.size w X) := s3 w _ (unhide HB9) (Nat.le_refl _)
    have hXz : X.heap.size = w9.heap.size := by rw [hX]; simp [World.setCell]
    have HHX : Hid (HdR X ah H ∧ ∀ k, blk ah = some k → w.heap.size ≤ k ∧ k < X.heap.size) := ⟨(unhide HOW).hdR.same (fun k hk _ => s2 k (Nat.ne_of_gt (unhide HHW k hk))), fun k hk => ⟨Nat.le_of_lt (unhide HHW k hk), by rw [hXz]; exact ((unhide HOW).lt k hk).2⟩⟩
    clear hXz
    have HFF : Hid (RAs hd s H 0 bh) := by
      obtain ⟨o1, o2⟩ := unhide HOM
      refine ⟨fun h => ?_, fun h s' H' n' hra => ?_⟩
      · rw [h] at o1
        obtain ⟨G, hG⟩ := Option.isSome_iff_exists.1 o1.symm
        obtain rfl := o2 G hG
        obtain ⟨r1, r2⟩ := (unhide HS0).1 rfl
        exact ⟨l0, rest, (unhide HL0).symm, r1, r2, (by rw [← unhide HM]; exact hm32), .inl ⟨unhide H101, rfl, hG⟩⟩
      · rw [h] at o1
        obtain ⟨l0', rest', e1, e2, e3, e4, e5⟩ := hra
        have e6 := (unhide HL0).trans e1
        simp only [List.cons.injEq] at e6
        obtain ⟨rfl, rfl⟩ := e6
        have e7 := ((unhide HS0).2 s' e2 e3).2
        rcases e5 with ⟨_, _, e9⟩ | ⟨e8, _⟩
        · rw [e9] at o1; cases o1
        · exact e8 (by rw [← e7]; exact unhide H101)
    clear s1 s2 s3
    go_wp2_with fail
    rw [← hX]
    refine bodyPost_ret (v := .tuple #[.agg #[.int .i64 s, .slice ah H.length ch, .slice none 0 0], .int .i64 0, .bool bh]) (by simp [results, Tryz.results65, go_sem, q0, q1, q2]) rfl ?_
    exact RaP.mk s H 0 bh ah ch rfl HFF HHX HBX
  have h101b : (s != 101) = true := by rw [bne_iff_ne]; exact h101
  have H101 := hide h101
  clear h101
  cases m with
  | zero =>
    have z0 : w2.cell? ⟨w.heap.size, 0, none⟩ = some (.int .i64 0) := cell_of_row _ _ _ _ _ _ (unhide HR2)
    have f0 := frozen_of_row w2 w.heap.size 0 _ _ (unhide HR2)
    have z1 : w2.cell? ⟨w.heap.size, 1, none⟩ = some (.slice none 0 0) := cell_of_row _ _ _ _ _ _ (unhide HR2)
    have f1 := frozen_of_row w2 w.heap.size 1 _ _ (unhide HR2)
    have z2 : w2.cell? ⟨w.heap.size, 2, none⟩ = some (.slice none 0 0) := cell_of_row _ _ _ _ _ _ (unhide HR2)
    have f2 := frozen_of_row w2 w.heap.size 2 _ _ (unhide HR2)
    obtain ⟨X, hX⟩ : ∃ X, X = ((w2.setCell ⟨w.heap.size, 0, none⟩ (.int .i64 0)).setCell ⟨w.heap.size, 1, none⟩ (.slice none 0 0)).setCell ⟨w.heap.size, 2, none⟩ (.slice none 0 0) := ⟨_, rfl⟩
    obtain ⟨s1, s2, s3⟩ := set3a w2 w.heap.size _ _ _ (.int .i64 0) (.slice none 0 0) (.slice none 0 0) _ (unhide HR2)
    rw [← hX] at s1 s2 s3
    have q0 : X.cell? ⟨w.heap.size, 0, none⟩ = some (.int .i64 0) := cell_of_row _ _ _ _ _ _ s1
    have q1 : X.cell? ⟨w.heap.size, 1, none⟩ = some (.slice none 0 0) := cell_of_row _ _ _ _ _ _ s1
    have q2 : X.cell? ⟨w.heap.size, 2, none⟩ = some (.slice none 0 0) := cell_of_row _ _ _ _ _ _ s1
    have HBX : Hid (Below w.heap.size w X) := s3 w _ (unhide HB2) (Nat.le_refl _)
    have HFF : Hid (RAs hd 0 [] 0 false) := ⟨fun h => (by cases h), fun _ s' H' n' hra => by
      obtain ⟨l0', rest', e1, e2, e3, e4, e5⟩ := hra
      have e6 := (unhide HL0).trans e1
      simp only [List.cons.injEq] at e6
      obtain ⟨rfl, rfl⟩ := e6
      have e7 := ((unhide HS0).2 s' e2 e3).2
      rcases e5 with ⟨e8, _⟩ | ⟨_, last, e9, _⟩
      · exact unhide H101 (by rw [e7]; exact e8)
      · have : rest = [] := List.eq_nil_of_length_eq_zero (unhide HM).symm
        rw [this] at e9; cases e9⟩
    have HHX : Hid (HdR X none [] ∧ ∀ k, blk none = some k → w.heap.size ≤ k ∧ k < X.heap.size) := ⟨⟨fun h => absurd rfl h, Nat.zero_le _⟩, fun k hk => by simp [blk] at hk⟩
    clear s1 s2 s3
    go_wp2_with fail
    rw [← hX]
    refine bodyPost_ret (v := .tuple #[.agg #[.int .i64 0, .slice none 0 0, .slice none 0 0], .int .i64 0, .bool false]) (by simp [results, Tryz.results65, go_sem, q0, q1, q2]) rfl ?_
    exact RaP.mk 0 [] 0 false none 0 rfl HFF HHX HBX
  | succ k =>
  have hk32 : k ≤ 31 := by omega
  have hrl : rest.length = k + 1 := (unhide HM).symm
  obtain ⟨last, hlast⟩ : ∃ last, rest[k]? = some last := ⟨_, List.getElem?_eq_getElem (by omega)⟩
  have HGL : Hid (rest.getLast? = some last) := by
    show _ = _
    rw [List.getLast?_eq_getElem?, hrl]
    exact hlast
  obtain ⟨b1, off, ha1, hcl⟩ := (unhide HNr).mem (by intro e; rw [e] at hrl; simp at hrl)
  subst ha1
  have c9 := hcl k last hlast
  have hll : last.length ≤ 1000000 := unhide HXL last (List.mem_of_getElem? hlast)
  have HOL := hide (ownLength_any last w2 hll ((unhide HEE).1.below (unhide HB2)) ((unhide HEE).2.2.below (unhide HB2)))
  obtain ⟨a2, hh1, hh2⟩ := headS (some ⟨b1, off, none⟩) (k + 1) cr k rest (by omega) (by omega)
  have HH2 := hide hh2
  have HRL := hide hrl
  clear hlast hcl hh2 hrl h32
  go_wp2_with fail
  refine (unhide HOL).mono ?_
  rintro e w3 ⟨sn, bn, rfl, HON, HB3'⟩
  have HB3 : Hid (Below w.heap.size w w3) := (unhide HB2).trans ((unhide HB3').mono (unhide HB2).size)
  have HR3 : Hid (w3.heap[w.heap.size]? = some (.cells #[.int .i64 0, .slice none 0 0, .slice none 0 0] 58 (0, 0))) := ((unhide HB3').block _ (Array.getElem?_eq_some_iff.1 (unhide HR2)).1).trans (unhide HR2)
  have HNx := hide (unhide HH2 _ ((unhide HNr).below (unhide HB3') (Nat.le_refl _)))
  clear HOL HB2 HR2 HB3' c9 HNr HH2
  cases bn with
  | false =>
    have z0 : w3.cell? ⟨w.heap.size, 0, none⟩ = some (.int .i64 0) := cell_of_row _ _ _ _ _ _ (unhide HR3)
    have f0 := frozen_of_row w3 w.heap.size 0 _ _ (unhide HR3)
    have z1 : w3.cell? ⟨w.heap.size, 1, none⟩ = some (.slice none 0 0) := cell_of_row _ _ _ _ _ _ (unhide HR3)
    have f1 := frozen_of_row w3 w.heap.size 1 _ _ (unhide HR3)
    have z2 : w3.cell? ⟨w.heap.size, 2, none⟩ = some (.slice none 0 0) := cell_of_row _ _ _ _ _ _ (unhide HR3)
    have f2 := frozen_of_row w3 w.heap.size 2 _ _ (unhide HR3)
    obtain ⟨X, hX⟩ : ∃ X, X = ((w3.setCell ⟨w.heap.size, 0, none⟩ (.int .i64 0)).setCell ⟨w.heap.size, 1, none⟩ (.slice none 0 0)).setCell ⟨w.heap.size, 2, none⟩ (.slice none 0 0) := ⟨_, rfl⟩
    obtain ⟨s1, s2, s3⟩ := set3a w3 w.heap.size _ _ _ (.int .i64 0) (.slice none 0 0) (.slice none 0 0) _ (unhide HR3)
    rw [← hX] at s1 s2 s3
    have q0 : X.cell? ⟨w.heap.size, 0, none⟩ = some (.int .i64 0) := cell_of_row _ _ _ _ _ _ s1
    have q1 : X.cell? ⟨w.heap.size, 1, none⟩ = some (.slice none 0 0) := cell_of_row _ _ _ _ _ _ s1
    have q2 : X.cell? ⟨w.heap.size, 2, none⟩ = some (.slice none 0 0) := cell_of_row _ _ _ _ _ _ s1
    have HBX : Hid (Below w.heap.size w X) := s3 w _ (unhide HB3) (Nat.le_refl _)
    have HFF : Hid (RAs hd 0 [] 0 false) := ⟨fun h => (by cases h), fun _ s' H' n' hra => by
      obtain ⟨l0', rest', e1, e2, e3, e4, e5⟩ := hra
      have e6 := (unhide HL0).trans e1
      simp only [List.cons.injEq] at e6
      obtain ⟨rfl, rfl⟩ := e6
      have e7 := ((unhide HS0).2 s' e2 e3).2
      rcases e5 with ⟨e8, _⟩ | ⟨_, last', e9, e10, _⟩
      · exact unhide H101 (by rw [e7]; exact e8)
      · rw [unhide HGL] at e9
        cases e9
        have := (unhide HON).1
        rw [e10] at this
        cases this⟩
    have HHX : Hid (HdR X none [] ∧ ∀ k, blk none = some k → w.heap.size ≤ k ∧ k < X.heap.size) := ⟨⟨fun h => absurd rfl h, Nat.zero_le _⟩, fun k hk => by simp [blk] at hk⟩
    clear s1 s2 s3
    go_wp2_with fail
    rw [← hX]
    refine bodyPost_ret (v := .tuple #[.agg #[.int .i64 0, .slice none 0 0, .slice none 0 0], .int .i64 0, .bool false]) (by simp [results, Tryz.results65, go_sem, q0, q1, q2]) rfl ?_
    exact RaP.mk 0 [] 0 false none 0 rfl HFF HHX HBX
  | true =>
  obtain ⟨n, hn⟩ : ∃ n, olM last = some n := Option.isSome_iff_exists.1 (unhide HON).1.symm
  obtain rfl := (unhide HON).2 n hn
  have HNN := hide hn
  have hrm : rest.length ≤ 1000 := by rw [unhide HRL]; omega
  have HXL : Hid (∀ x ∈ rest.take k, x.length ≤ 1000000) := fun x hx => unhide HXL0 x (List.mem_of_mem_take hx)
  have htk : (rest.take k).length = k := by simp; have := unhide HRL; omega
  have HTK := hide htk
  clear hn htk
  have HOH := hide (ownHeaders_any a2 cr (rest.take k) w3 (unhide HNx) (fun x hx => unhide HXL x hx) (by simp; omega) ((unhide HEE).1.1.below (unhide HB3) (Nat.le_refl _)))
  rw [unhide HTK] at HOH
  go_wp2_with fail
  refine (unhide HOH).mono ?_
  rintro e w9 ⟨ah, ch, H, bh, rfl, HOM, HOW, HB9'⟩
  have HB9 : Hid (Below w.heap.size w w9) := (unhide HB3).trans ((unhide HB9').mono (unhide HB3).size)
  have HR9 : Hid (w9.heap[w.heap.size]? = some (.cells #[.int .i64 0, .slice none 0 0, .slice none 0 0] 58 (0, 0))) := ((unhide HB9').block _ (Array.getElem?_eq_some_iff.1 (unhide HR3)).1).trans (unhide HR3)
  have HHW : Hid (∀ k, blk ah = some k → w.heap.size < k) := fun k hk => Nat.lt_of_lt_of_le (Array.getElem?_eq_some_iff.1 (unhide HR3)).1 ((unhide HOW).lt k hk).1
  clear HOH
  have z0 : w9.cell? ⟨w.heap.size, 0, none⟩ = some (.int .i64 0) := cell_of_row _ _ _ _ _ _ (unhide HR9)
  have f0 := frozen_of_row w9 w.heap.size 0 _ _ (unhide HR9)
  have z1 : w9.cell? ⟨w.heap.size, 1, none⟩ = some (.slice none 0 0) := cell_of_row _ _ _ _ _ _ (unhide HR9)
  have f1 := frozen_of_row w9 w.heap.size 1 _ _ (unhide HR9)
  have z2 : w9.cell? ⟨w.heap.size, 2, none⟩ = some (.slice none 0 0) := cell_of_row _ _ _ _ _ _ (unhide HR9)
  have f2 := frozen_of_row w9 w.heap.size 2 _ _ (unhide HR9)
  obtain ⟨X, hX⟩ : ∃ X, X = ((w9.setCell ⟨w.heap.size, 0, none⟩ (.int .i64 s)).setCell ⟨w.heap.size, 1, none⟩ (.slice ah H.length ch)).setCell ⟨w.heap.size, 2, none⟩ (.slice none 0 0) := ⟨_, rfl⟩
  obtain ⟨s1, s2, s3⟩ := set3a w9 w.heap.size _ _ _ (.int .i64 s) (.slice ah H.length ch) (.slice none 0 0) _ (unhide HR9)
  rw [← hX] at s1 s2 s3
  have q0 : X.cell? ⟨w.heap.size, 0, none⟩ = some (.int .i64 s) := cell_of_row _ _ _ _ _ _ s1
  have q1 : X.cell? ⟨w.heap.size, 1, none⟩ = some (.slice ah H.length ch) := cell_of_row _ _ _ _ _ _ s1
  have q2 : X.cell? ⟨w.heap.size, 2, none⟩ = some (.slice none 0 0) := cell_of_row _ _ _ _ _ _ s1
  have HBX : Hid (Below w.heap.size w X) := s3 w _ (unhide HB9) (Nat.le_refl _)
  have hXz : X.heap.size = w9.heap.size := by rw [hX]; simp [World.setCell]
  have HHX : Hid (HdR X ah H ∧ ∀ k, blk ah = some k → w.heap.size ≤ k ∧ k < X.heap.size) := ⟨(unhide HOW).hdR.same (fun k hk _ => s2 k (Nat.ne_of_gt (unhide HHW k hk))), fun k hk => ⟨Nat.le_of_lt (unhide HHW k hk), by rw [hXz]; exact ((unhide HOW).lt k hk).2⟩⟩
  clear hXz
  have HFF : Hid (RAs hd s H n bh) := by
    obtain ⟨o1, o2⟩ := unhide HOM
    refine ⟨fun h => ?_, fun h s' H' n' hra => ?_⟩
    · rw [h] at o1
      obtain ⟨G, hG⟩ := Option.isSome_iff_exists.1 o1.symm
      obtain rfl := o2 G hG
      obtain ⟨r1, r2⟩ := (unhide HS0).1 rfl
      exact ⟨l0, rest, (unhide HL0).symm, r1, r2, by rw [unhide HRL]; omega, .inr ⟨unhide H101, last, unhide HGL, unhide HNN, by rw [unhide HRL]; exact hG⟩⟩
    · rw [h] at o1
      obtain ⟨l0', rest', e1, e2, e3, e4, e5⟩ := hra
      have e6 := (unhide HL0).trans e1
      simp only [List.cons.injEq] at e6
      obtain ⟨rfl, rfl⟩ := e6
      have e7 := ((unhide HS0).2 s' e2 e3).2
      rcases e5 with ⟨e8, _⟩ | ⟨_, last', e9, e10, e11⟩
      · exact unhide H101 (by rw [e7]; exact e8)
      · rw [unhide HRL] at e11
        have e12 : k + 1 - 1 = k := by omega
        rw [e12] at e11
        rw [e11] at o1
        cases o1
  clear s1 s2 s3
  go_wp2_with fail
  rw [← hX]
  refine bodyPost_ret (v := .tuple #[.agg #[.int .i64 s, .slice ah H.length ch, .slice none 0 0], .int .i64 (n : Int), .bool bh]) (by simp [results, Tryz.results65, go_sem, q0, q1, q2]) rfl ?_
  exact RaP.mk s H n bh ah ch rfl HFF HHX HBX
#print axioms readAnswer_any
end Go.Proofs.YtonaekkenggmbaaGreatDoor
end
section
set_option linter.unusedVariables false
set_option maxRecDepth 1000000
namespace Go.Proofs.YtonaekkenggmbaaGreatDoor
open Go.RowKit

/-- Why there is no answer. -/
def RdE (l : List UInt8) (E : Nat) : Prop :=
  ((chM l).2 ≠ 0 ∧ E = (chM l).2) ∨ ((chM l).2 = 0 ∧ (((∀ s H n, ¬ RA (chM l).1 s H n) ∧ E = 80) ∨ ∃ s H n, RA (chM l).1 s H n ∧ ((32768 < n ∧ E = 81) ∨ (n ≤ 32768 ∧ l.length < (chM l).1.length + 4 + n ∧ E = 2))))
/-- What Read says. -/
def RdR (l : List UInt8) (s : Int) (H : List Hd) (B : List UInt8) (cnt E : Nat) : Prop :=
  (E = 0 ∧ (chM l).2 = 0 ∧ ∃ n, RA (chM l).1 s H n ∧ n ≤ 32768 ∧ (chM l).1.length + 4 + n ≤ l.length ∧ B = (l.drop ((chM l).1.length + 4)).take n ∧ cnt = (chM l).1.length + 4 + n) ∨ (E ≠ 0 ∧ s = 0 ∧ H = [] ∧ B = [] ∧ cnt = 0 ∧ RdE l E)
theorem chM_room (l : List UInt8) (h : (chM l).2 = 0) : (chM l).1.length + 4 ≤ l.length ∧ (chM l).1.length ≤ 8192 := by
  unfold chM at h ⊢
  split at h
  · rename_i h0
    rw [if_pos h0]
    have hr := Lib.index_room (chF l) hend h0
    have h4 : hend.length = 4 := rfl
    have hf : (chF l).length ≤ l.length ∧ (chF l).length ≤ 8196 := by unfold chF; simp; omega
    simp only [List.length_take]
    omega
  · split at h <;> simp at h
def RdP (l : List UInt8) (w : World) (e : Ending) (w' : World) : Prop := ∃ (s : Int) (H : List Hd) (B : List UInt8) (n E : Nat) (hp : Option Addr) (hc : Nat) (bp : Option Addr) (bc : Nat), e = .returned (.tuple #[.agg #[.int .i64 s, .slice hp H.length hc, .slice bp B.length bc], .int .i64 (n : Int), .int .i64 (E : Int)]) ∧ Hid (RdR l s H B n E) ∧ Hid (HdR w' hp H ∧ Bs w' bp bc B) ∧ Hid (Below w.heap.size w w')
theorem RdP.mk {l : List UInt8} {w : World} {e : Ending} {w' : World} (s : Int) (H : List Hd) (B : List UInt8) (n E : Nat) (hp : Option Addr) (hc : Nat) (bp : Option Addr) (bc : Nat) (he : e = .returned (.tuple #[.agg #[.int .i64 s, .slice hp H.length hc, .slice bp B.length bc], .int .i64 (n : Int), .int .i64 (E : Int)])) (h1 : Hid (RdR l s H B n E)) (h2 : Hid (HdR w' hp H ∧ Bs w' bp bc B)) (h3 : Hid (Below w.heap.size w w')) : RdP l w e w' := ⟨s, H, B, n, E, hp, hc, bp, bc, he, h1, h2, h3⟩
set_option maxHeartbeats 4000000 in
theorem read8 (x : Option Addr) (cx : Nat) (l : List UInt8) (w : World) (hE : EnvH w) (hR : Rx w) (hP : P10 w) (hb : Bs w x cx l) (hl : l.length ≤ 1000000) :
    Calls Tryz.prog 35 #[.slice x l.length cx] w (RdP l w) := by
  obtain ⟨V, hV⟩ : ∃ V, V = w.alloc (.cells #[.int .i64 0, .slice none 0 0, .slice none 0 0] 58) := ⟨_, rfl⟩
  have HBV : Hid (Below w.heap.size w V) := by rw [hV]; exact (Below.refl _ _).alloc (Nat.le_refl _) _
  have HRV : Hid (V.heap[w.heap.size]? = some (.cells #[.int .i64 0, .slice none 0 0, .slice none 0 0] 58 (0, 0))) := by rw [hV]; exact heap_alloc_new w _
  have HCH := hide (cutHead_any x cx l V (hE.below (unhide HBV)) (hb.below (unhide HBV) (Nat.le_refl _)) hl)
  have HEE : Hid (EnvH w ∧ Rx w ∧ P10 w ∧ Bs w x cx l) := ⟨hE, hR, hP, hb⟩
  have hlc := hb.le
  have HRM := hide (chM_room l)
  obtain ⟨M, hM⟩ : ∃ M, M = chM l := ⟨_, rfl⟩
  rw [← hM] at HCH HRM
  have HMM : Hid (chM l = M) := hM.symm
  clear hE hR hP hb hM
  obtain ⟨hd, e0⟩ := M
  simp only at HCH HRM
  go_enter Tryz.func35, Tryz.ntmps35
  go_upto_region 1 with fail
  rw [← hV]
  clear hV
  go_wp2_with fail
  refine (unhide HCH).mono ?_
  rintro e w1 ⟨rfl, HB1'⟩
  have HB1 : Hid (Below w.heap.size w w1) := (unhide HBV).trans ((unhide HB1').mono (unhide HBV).size)
  have HR1 : Hid (w1.heap[w.heap.size]? = some (.cells #[.int .i64 0, .slice none 0 0, .slice none 0 0] 58 (0, 0))) := ((unhide HB1').block _ (Array.getElem?_eq_some_iff.1 (unhide HRV)).1).trans (unhide HRV)
  clear HCH HBV HRV HB1'
  by_cases he0 : e0 = 0
  · subst he0
    obtain ⟨hr4, hr8⟩ := unhide HRM rfl
    have HRAA := hide (readAnswer_any hd w1 (by omega) ((unhide HEE).1.below (unhide HB1)) ((unhide HEE).2.1.below (unhide HB1)) ((unhide HEE).2.2.1.below (unhide HB1)))
    go_wp2_with fail
    refine (unhide HRAA).mono ?_
    rintro e w2 hrap
    obtain ⟨s, H, n, b, hp, hc, rfl, HRS, HHD, HB2'⟩ := hrap
    obtain ⟨o, ho⟩ : ∃ o, o = Obj.cells #[.int .i64 s, .slice hp H.length hc, .slice none 0 0] 58 := ⟨_, rfl⟩
    obtain ⟨w3, hw3⟩ : ∃ v, v = w2.alloc o := ⟨_, rfl⟩
    have hb3 : Below w2.heap.size w2 w3 := by rw [hw3]; exact (Below.refl _ _).alloc (Nat.le_refl _) _
    have HB3 : Hid (Below w.heap.size w w3) := ((unhide HB1).trans ((unhide HB2').mono (unhide HB1).size)).trans (hb3.mono (Nat.le_trans (unhide HB1).size (unhide HB2').size))
    have h1z := (Array.getElem?_eq_some_iff.1 (unhide HR1)).1
    have HR3 : Hid (w3.heap[w.heap.size]? = some (.cells #[.int .i64 0, .slice none 0 0, .slice none 0 0] 58 (0, 0))) := (hb3.block _ (Nat.lt_of_lt_of_le h1z (unhide HB2').size)).trans (((unhide HB2').block _ h1z).trans (unhide HR1))
    have HG3 : Hid (w3.heap[w2.heap.size]? = some (.cells #[.int .i64 s, .slice hp H.length hc, .slice none 0 0] 58 (0, 0))) := by rw [hw3, ho]; exact heap_alloc_new w2 _
    have h2z := (unhide HB2').size
    have HH3 : Hid (HdR w3 hp H ∧ ∀ k, blk hp = some k → w.heap.size < k ∧ k ≠ w2.heap.size) := ⟨(unhide HHD).1.below hb3 (Nat.le_refl _), fun k hk => by have := (unhide HHD).2 k hk; omega⟩
    have HZG : Hid (w.heap.size < w2.heap.size ∧ w2.heap.size < w3.heap.size) := ⟨by omega, (Array.getElem?_eq_some_iff.1 (unhide HG3)).1⟩
    rw [ho] at hw3
    obtain ⟨G, hG⟩ : ∃ G, G = w2.heap.size := ⟨_, rfl⟩
    rw [← hG] at HG3 HH3 HZG
    clear ho HRAA hb3 h1z h2z HB2' HHD o HB1 HR1
    go_upto_region 5 with fail
    rw [← hw3, ← hG]
    clear hw3 hG
    have zh : (str hd).size = hd.length := str_size hd
    cases b with
    | false =>
      have z0 : w3.cell? ⟨w.heap.size, 0, none⟩ = some (.int .i64 0) := cell_of_row _ _ _ _ _ _ (unhide HR3)
      have f0 := frozen_of_row w3 w.heap.size 0 _ _ (unhide HR3)
      have z1 : w3.cell? ⟨w.heap.size, 1, none⟩ = some (.slice none 0 0) := cell_of_row _ _ _ _ _ _ (unhide HR3)
      have f1 := frozen_of_row w3 w.heap.size 1 _ _ (unhide HR3)
      have z2 : w3.cell? ⟨w.heap.size, 2, none⟩ = some (.slice none 0 0) := cell_of_row _ _ _ _ _ _ (unhide HR3)
      have f2 := frozen_of_row w3 w.heap.size 2 _ _ (unhide HR3)
      obtain ⟨X, hX⟩ : ∃ X, X = ((w3.setCell ⟨w.heap.size, 0, none⟩ (.int .i64 0)).setCell ⟨w.heap.size, 1, none⟩ (.slice none 0 0)).setCell ⟨w.heap.size, 2, none⟩ (.slice none 0 0) := ⟨_, rfl⟩
      obtain ⟨s1, s2, s3⟩ := set3a w3 w.heap.size _ _ _ (.int .i64 0) (.slice none 0 0) (.slice none 0 0) _ (unhide HR3)
      rw [← hX] at s1 s2 s3
      have q0 : X.cell? ⟨w.heap.size, 0, none⟩ = some (.int .i64 0) := cell_of_row _ _ _ _ _ _ s1
      have q1 : X.cell? ⟨w.heap.size, 1, none⟩ = some (.slice none 0 0) := cell_of_row _ _ _ _ _ _ s1
      have q2 : X.cell? ⟨w.heap.size, 2, none⟩ = some (.slice none 0 0) := cell_of_row _ _ _ _ _ _ s1
      have HBX : Hid (Below w.heap.size w X) := s3 w _ (unhide HB3) (Nat.le_refl _)
      have HFF : Hid (RdR l 0 [] [] 0 80) := .inr ⟨by decide, rfl, rfl, rfl, rfl, .inr ⟨by rw [unhide HMM], .inl ⟨by rw [unhide HMM]; exact (unhide HRS).2 rfl, rfl⟩⟩⟩
      have HHX : Hid (HdR X none [] ∧ Bs X none 0 []) := ⟨⟨fun h => absurd rfl h, Nat.zero_le _⟩, bs_none _⟩
      clear s1 s2 s3
      go_wp2_with fail
      rw [← hX]
      refine bodyPost_ret (v := .tuple #[.agg #[.int .i64 0, .slice none 0 0, .slice none 0 0], .int .i64 0, .int .i64 80]) (by simp [results, Tryz.results35, go_sem, q0, q1, q2]) rfl ?_
      exact RdP.mk 0 [] [] 0 80 none 0 none 0 rfl HFF HHX HBX
    | true =>
    have HRA := hide ((unhide HRS).1 rfl)
    clear HRS
    by_cases hn3 : 32768 < n
    · have hn3' : (32768 : Int) < (n : Int) := by omega
      have z0 : w3.cell? ⟨w.heap.size, 0, none⟩ = some (.int .i64 0) := cell_of_row _ _ _ _ _ _ (unhide HR3)
      have f0 := frozen_of_row w3 w.heap.size 0 _ _ (unhide HR3)
      have z1 : w3.cell? ⟨w.heap.size, 1, none⟩ = some (.slice none 0 0) := cell_of_row _ _ _ _ _ _ (unhide HR3)
      have f1 := frozen_of_row w3 w.heap.size 1 _ _ (unhide HR3)
      have z2 : w3.cell? ⟨w.heap.size, 2, none⟩ = some (.slice none 0 0) := cell_of_row _ _ _ _ _ _ (unhide HR3)
      have f2 := frozen_of_row w3 w.heap.size 2 _ _ (unhide HR3)
      obtain ⟨X, hX⟩ : ∃ X, X = ((w3.setCell ⟨w.heap.size, 0, none⟩ (.int .i64 0)).setCell ⟨w.heap.size, 1, none⟩ (.slice none 0 0)).setCell ⟨w.heap.size, 2, none⟩ (.slice none 0 0) := ⟨_, rfl⟩
      obtain ⟨s1, s2, s3⟩ := set3a w3 w.heap.size _ _ _ (.int .i64 0) (.slice none 0 0) (.slice none 0 0) _ (unhide HR3)
      rw [← hX] at s1 s2 s3
      have q0 : X.cell? ⟨w.heap.size, 0, none⟩ = some (.int .i64 0) := cell_of_row _ _ _ _ _ _ s1
      have q1 : X.cell? ⟨w.heap.size, 1, none⟩ = some (.slice none 0 0) := cell_of_row _ _ _ _ _ _ s1
      have q2 : X.cell? ⟨w.heap.size, 2, none⟩ = some (.slice none 0 0) := cell_of_row _ _ _ _ _ _ s1
      have HBX : Hid (Below w.heap.size w X) := s3 w _ (unhide HB3) (Nat.le_refl _)
      have HFF : Hid (RdR l 0 [] [] 0 81) := .inr ⟨by decide, rfl, rfl, rfl, rfl, .inr ⟨by rw [unhide HMM], .inr ⟨s, H, n, by rw [unhide HMM]; exact unhide HRA, .inl ⟨hn3, rfl⟩⟩⟩⟩
      have HHX : Hid (HdR X none [] ∧ Bs X none 0 []) := ⟨⟨fun h => absurd rfl h, Nat.zero_le _⟩, bs_none _⟩
      clear s1 s2 s3
      go_wp2_with fail
      rw [← hX]
      refine bodyPost_ret (v := .tuple #[.agg #[.int .i64 0, .slice none 0 0, .slice none 0 0], .int .i64 0, .int .i64 81]) (by simp [results, Tryz.results35, go_sem, q0, q1, q2]) rfl ?_
      exact RdP.mk 0 [] [] 0 81 none 0 none 0 rfl HFF HHX HBX
    have hn3' : ¬ (32768 : Int) < (n : Int) := by omega
    obtain ⟨y, m1, m2, m3⟩ := cut_tail x cx (hd.length + 4) l hlc hr4 (fun hne => by obtain ⟨b, off, e, _⟩ := (unhide HEE).2.2.2.row hne; exact ⟨b, off, e⟩)
    have m1' : ∀ w, (Instr.slice 28 (.slice x l.length cx) (some (.int .i64 ((hd.length : Int) + 4))) none none).run Tryz.prog w = .ok (.slice y (l.length - (hd.length + 4)) (cx - (hd.length + 4))) w := fun w => m1 w
    obtain ⟨rl, hrl⟩ : ∃ rl, rl = l.length - (hd.length + 4) := ⟨_, rfl⟩
    rw [← hrl] at m1'
    have hrl6 : rl ≤ 1000000 := by omega
    have hh8 : (hd.length : Int) ≤ 8192 := by omega
    have HM2 := hide (m2 w3 ((unhide HEE).2.2.2.below (unhide HB3) (Nat.le_refl _)))
    by_cases hsh : rl < n
    · have hsh' : (rl : Int) < (n : Int) := by omega
      have hsh2 : l.length < hd.length + 4 + n := by omega
      have z0 : w3.cell? ⟨w.heap.size, 0, none⟩ = some (.int .i64 0) := cell_of_row _ _ _ _ _ _ (unhide HR3)
      have f0 := frozen_of_row w3 w.heap.size 0 _ _ (unhide HR3)
      have z1 : w3.cell? ⟨w.heap.size, 1, none⟩ = some (.slice none 0 0) := cell_of_row _ _ _ _ _ _ (unhide HR3)
      have f1 := frozen_of_row w3 w.heap.size 1 _ _ (unhide HR3)
      have z2 : w3.cell? ⟨w.heap.size, 2, none⟩ = some (.slice none 0 0) := cell_of_row _ _ _ _ _ _ (unhide HR3)
      have f2 := frozen_of_row w3 w.heap.size 2 _ _ (unhide HR3)
      obtain ⟨X, hX⟩ : ∃ X, X = ((w3.setCell ⟨w.heap.size, 0, none⟩ (.int .i64 0)).setCell ⟨w.heap.size, 1, none⟩ (.slice none 0 0)).setCell ⟨w.heap.size, 2, none⟩ (.slice none 0 0) := ⟨_, rfl⟩
      obtain ⟨s1, s2, s3⟩ := set3a w3 w.heap.size _ _ _ (.int .i64 0) (.slice none 0 0) (.slice none 0 0) _ (unhide HR3)
      rw [← hX] at s1 s2 s3
      have q0 : X.cell? ⟨w.heap.size, 0, none⟩ = some (.int .i64 0) := cell_of_row _ _ _ _ _ _ s1
      have q1 : X.cell? ⟨w.heap.size, 1, none⟩ = some (.slice none 0 0) := cell_of_row _ _ _ _ _ _ s1
      have q2 : X.cell? ⟨w.heap.size, 2, none⟩ = some (.slice none 0 0) := cell_of_row _ _ _ _ _ _ s1
      have HBX : Hid (Below w.heap.size w X) := s3 w _ (unhide HB3) (Nat.le_refl _)
      have HFF : Hid (RdR l 0 [] [] 0 2) := .inr ⟨by decide, rfl, rfl, rfl, rfl, .inr ⟨by rw [unhide HMM], .inr ⟨s, H, n, by rw [unhide HMM]; exact unhide HRA, .inr ⟨by omega, by rw [unhide HMM]; exact hsh2, rfl⟩⟩⟩⟩
      have HHX : Hid (HdR X none [] ∧ Bs X none 0 []) := ⟨⟨fun h => absurd rfl h, Nat.zero_le _⟩, bs_none _⟩
      clear s1 s2 s3
      go_wp2_with fail
      rw [← hX]
      refine bodyPost_ret (v := .tuple #[.agg #[.int .i64 0, .slice none 0 0, .slice none 0 0], .int .i64 0, .int .i64 2]) (by simp [results, Tryz.results35, go_sem, q0, q1, q2]) rfl ?_
      exact RdP.mk 0 [] [] 0 2 none 0 none 0 rfl HFF HHX HBX
    have hsh' : ¬ (rl : Int) < (n : Int) := by omega
    have hsh2 : hd.length + 4 + n ≤ l.length := by omega
    have hDl : (l.drop (hd.length + 4)).length = rl := by rw [List.length_drop, hrl]
    obtain ⟨y2, n1, n2, n3⟩ := cut_head y rl (cx - (hd.length + 4)) n (l.drop (hd.length + 4)) (by omega) (by omega) (fun hne => by obtain ⟨b, off, e, _⟩ := (unhide HM2).row hne; exact ⟨b, off, e⟩)
    have hTl : ((l.drop (hd.length + 4)).take n).length = n := by rw [List.length_take, hDl]; omega
    have HCL := hide (bclone_any y2 n (cx - (hd.length + 4)) ((l.drop (hd.length + 4)).take n) w3 (n2 w3 (unhide HM2)) hTl.symm (by omega))
    have HRF : Hid (RdR l s H ((l.drop (hd.length + 4)).take n) (hd.length + 4 + n) 0) := .inl ⟨rfl, by rw [unhide HMM], n, by rw [unhide HMM]; exact unhide HRA, by omega, by rw [unhide HMM]; exact hsh2, by rw [unhide HMM], by rw [unhide HMM]⟩
    generalize (l.drop (hd.length + 4)).take n = T at *
    generalize hcq : cx - (hd.length + 4) = cq at *
    have hnb : (n : Int) ≤ 32768 := by omega
    clear m1 m2 m3 n2 n3 hDl hsh hn3 hrl HM2 hcq hTl hsh2 hr4
    go_wp2_with fail
    refine (unhide HCL).mono ?_
    rintro e w4 ⟨yb, cb, r, rfl, hr, ho4, hb4⟩
    obtain rfl : r = T := unhide hr
    have hg4 : w4.heap[G]? = some (.cells #[.int .i64 s, .slice hp H.length hc, .slice none 0 0] 58 (0, 0)) := (hb4.block _ (unhide HZG).2).trans (unhide HG3)
    have hr4 : w4.heap[w.heap.size]? = some (.cells #[.int .i64 0, .slice none 0 0, .slice none 0 0] 58 (0, 0)) := (hb4.block _ (by have := unhide HZG; omega)).trans (unhide HR3)
    have hB4 : Below w.heap.size w w4 := (unhide HB3).trans (hb4.mono (unhide HB3).size)
    have hzg := unhide HZG
    obtain ⟨w5, hw5⟩ : ∃ v, v = w4.setCell ⟨G, 2, none⟩ (.slice yb r.length cb) := ⟨_, rfl⟩
    have hne5 : ∀ k, k ≠ G → w5.heap[k]? = w4.heap[k]? := fun k hk => by rw [hw5]; exact Below.heap_setCell _ _ _ k hk
    have hg5 : w5.heap[G]? = some (.cells #[.int .i64 s, .slice hp H.length hc, .slice yb r.length cb] 58 (0, 0)) := by rw [hw5, heap_setCell_same _ _ 2 _ _ _ hg4]; rfl
    have hr5 : w5.heap[w.heap.size]? = some (.cells #[.int .i64 0, .slice none 0 0, .slice none 0 0] 58 (0, 0)) := (hne5 _ (by omega)).trans hr4
    have hB5 : Below w.heap.size w w5 := ⟨by rw [hw5]; exact hB4.os, by rw [hw5]; exact hB4.tape, by rw [hw5]; exact hB4.output, by rw [hw5]; simp [World.setCell]; exact hB4.size, fun k hk => (hne5 k (by omega)).trans (hB4.block k hk)⟩
    have HD5 : Hid (HdR w5 hp H ∧ Bs w5 yb cb r ∧ (∀ k, blk hp = some k → w.heap.size < k) ∧ (∀ k, blk yb = some k → w.heap.size < k)) := by
      have hh := unhide HH3
      refine ⟨(hh.1.below hb4 (Nat.le_refl _)).same (fun k hk _ => hne5 k (hh.2 k hk).2), bs_samej ho4.toBs (fun k hk => hne5 k (by have := (ho4.lt k hk).1; omega)), fun k hk => (hh.2 k hk).1, fun k hk => by have := (ho4.lt k hk).1; omega⟩
    have v2 : w4.cell? ⟨G, 2, none⟩ = some (.slice none 0 0) := cell_of_row _ _ _ _ _ _ hg4
    have fv := frozen_of_row w4 G 2 _ _ hg4
    have p0 : w5.cell? ⟨G, 0, none⟩ = some (.int .i64 s) := cell_of_row _ _ _ _ _ _ hg5
    have p1 : w5.cell? ⟨G, 1, none⟩ = some (.slice hp H.length hc) := cell_of_row _ _ _ _ _ _ hg5
    have p2 : w5.cell? ⟨G, 2, none⟩ = some (.slice yb r.length cb) := cell_of_row _ _ _ _ _ _ hg5
    have z0 : w5.cell? ⟨w.heap.size, 0, none⟩ = some (.int .i64 0) := cell_of_row _ _ _ _ _ _ hr5
    have f0 := frozen_of_row w5 w.heap.size 0 _ _ hr5
    have z1 : w5.cell? ⟨w.heap.size, 1, none⟩ = some (.slice none 0 0) := cell_of_row _ _ _ _ _ _ hr5
    have f1 := frozen_of_row w5 w.heap.size 1 _ _ hr5
    have z2 : w5.cell? ⟨w.heap.size, 2, none⟩ = some (.slice none 0 0) := cell_of_row _ _ _ _ _ _ hr5
    have f2 := frozen_of_row w5 w.heap.size 2 _ _ hr5
    obtain ⟨X, hX⟩ : ∃ X, X = ((w5.setCell ⟨w.heap.size, 0, none⟩ (.int .i64 s)).setCell ⟨w.heap.size, 1, none⟩ (.slice hp H.length hc)).setCell ⟨w.heap.size, 2, none⟩ (.slice yb r.length cb) := ⟨_, rfl⟩
    obtain ⟨s1, s2, s3⟩ := set3a w5 w.heap.size _ _ _ (.int .i64 s) (.slice hp H.length hc) (.slice yb r.length cb) _ hr5
    rw [← hX] at s1 s2 s3
    have q0 : X.cell? ⟨w.heap.size, 0, none⟩ = some (.int .i64 s) := cell_of_row _ _ _ _ _ _ s1
    have q1 : X.cell? ⟨w.heap.size, 1, none⟩ = some (.slice hp H.length hc) := cell_of_row _ _ _ _ _ _ s1
    have q2 : X.cell? ⟨w.heap.size, 2, none⟩ = some (.slice yb r.length cb) := cell_of_row _ _ _ _ _ _ s1
    have HBX : Hid (Below w.heap.size w X) := s3 w _ hB5 (Nat.le_refl _)
    have HHX : Hid (HdR X hp H ∧ Bs X yb cb r) := ⟨(unhide HD5).1.same (fun k hk _ => s2 k (Nat.ne_of_gt ((unhide HD5).2.2.1 k hk))), bs_samej (unhide HD5).2.1 (fun k hk => s2 k (Nat.ne_of_gt ((unhide HD5).2.2.2 k hk)))⟩
    clear s1 s2 s3 hg4 hr4 hB4 hne5 hg5 hr5 hB5 HD5 HCL hr ho4 hb4 hzg
    go_upto_region 13 with fail
    rw [← hw5]
    clear hw5 v2 fv
    go_wp2_with fail
    rw [← hX]
    refine bodyPost_ret (v := .tuple #[.agg #[.int .i64 s, .slice hp H.length hc, .slice yb r.length cb], .int .i64 ((hd.length : Int) + 4 + (n : Int)), .int .i64 0]) (by simp [results, Tryz.results35, go_sem, q0, q1, q2]) rfl ?_
    exact RdP.mk s H r (hd.length + 4 + n) 0 hp hc yb cb (by congr 3) HRF HHX HBX
  · have he0' : ((e0 : Int) != 0) = true := by rw [bne_iff_ne]; omega
    have HE0 := hide he0
    clear he0
    have z0 : w1.cell? ⟨w.heap.size, 0, none⟩ = some (.int .i64 0) := cell_of_row _ _ _ _ _ _ (unhide HR1)
    have f0 := frozen_of_row w1 w.heap.size 0 _ _ (unhide HR1)
    have z1 : w1.cell? ⟨w.heap.size, 1, none⟩ = some (.slice none 0 0) := cell_of_row _ _ _ _ _ _ (unhide HR1)
    have f1 := frozen_of_row w1 w.heap.size 1 _ _ (unhide HR1)
    have z2 : w1.cell? ⟨w.heap.size, 2, none⟩ = some (.slice none 0 0) := cell_of_row _ _ _ _ _ _ (unhide HR1)
    have f2 := frozen_of_row w1 w.heap.size 2 _ _ (unhide HR1)
    obtain ⟨X, hX⟩ : ∃ X, X = ((w1.setCell ⟨w.heap.size, 0, none⟩ (.int .i64 0)).setCell ⟨w.heap.size, 1, none⟩ (.slice none 0 0)).setCell ⟨w.heap.size, 2, none⟩ (.slice none 0 0) := ⟨_, rfl⟩
    obtain ⟨s1, s2, s3⟩ := set3a w1 w.heap.size _ _ _ (.int .i64 0) (.slice none 0 0) (.slice none 0 0) _ (unhide HR1)
    rw [← hX] at s1 s2 s3
    have q0 : X.cell? ⟨w.heap.size, 0, none⟩ = some (.int .i64 0) := cell_of_row _ _ _ _ _ _ s1
    have q1 : X.cell? ⟨w.heap.size, 1, none⟩ = some (.slice none 0 0) := cell_of_row _ _ _ _ _ _ s1
    have q2 : X.cell? ⟨w.heap.size, 2, none⟩ = some (.slice none 0 0) := cell_of_row _ _ _ _ _ _ s1
    have HBX : Hid (Below w.heap.size w X) := s3 w _ (unhide HB1) (Nat.le_refl _)
    have HFF : Hid (RdR l 0 [] [] 0 e0) := .inr ⟨unhide HE0, rfl, rfl, rfl, rfl, .inl ⟨by rw [unhide HMM]; exact unhide HE0, by rw [unhide HMM]⟩⟩
    have HHX : Hid (HdR X none [] ∧ Bs X none 0 []) := ⟨⟨fun h => absurd rfl h, Nat.zero_le _⟩, bs_none _⟩
    clear s1 s2 s3
    go_wp2_with fail
    rw [← hX]
    refine bodyPost_ret (v := .tuple #[.agg #[.int .i64 0, .slice none 0 0, .slice none 0 0], .int .i64 0, .int .i64 (e0 : Int)]) (by simp [results, Tryz.results35, go_sem, q0, q1, q2]) rfl ?_
    exact RdP.mk 0 [] [] 0 e0 none 0 none 0 rfl HFF HHX HBX
#print axioms read8
end Go.Proofs.YtonaekkenggmbaaGreatDoor
end
section
set_option linter.unusedVariables false
set_option maxRecDepth 100000
namespace Go.Proofs.YtonaekkenggmbaaGreatDoor
open Go.RowKit

/-- A text without CR and LF. -/
def noC (l : List UInt8) : Prop := ∀ c ∈ l, c ≠ 13 ∧ c ≠ 10
/-- A header's line. -/
def hln (h : Hd) : List UInt8 := h.1 ++ [58, 32] ++ h.2
theorem hline_hln (h : Hd) : hline h = hln h ++ [13, 10] := by simp [hline, hln]
theorem tok_c (c : UInt8) (h : tokB c = true) : c ≠ 13 ∧ c ≠ 10 ∧ c ≠ 58 := all256 (fun c => tokB c = true → c ≠ 13 ∧ c ≠ 10 ∧ c ≠ 58) (by decide +kernel) c h
theorem val_c (c : UInt8) (h : valB c = true) : c ≠ 13 ∧ c ≠ 10 := all256 (fun c => valB c = true → c ≠ 13 ∧ c ≠ 10) (by decide +kernel) c h
theorem ans_tok (h : Hd) (ha : ansB h = true) : (∀ c ∈ h.1, tokB c = true) ∧ (∀ c ∈ h.2, valB c = true) := by
  unfold ansB at ha
  simp only [Bool.and_eq_true] at ha
  obtain ⟨h1, _, _, h4⟩ := ha
  unfold tknB at h1
  unfold vluB at h4
  simp only [Bool.and_eq_true] at h1 h4
  exact ⟨fun c hc => List.all_eq_true.1 h1.2.2 c hc, fun c hc => List.all_eq_true.1 h4.1 c hc⟩
theorem hln_noC (h : Hd) (ha : ansB h = true) : noC (hln h) := by
  obtain ⟨h1, h2⟩ := ans_tok h ha
  intro c hc
  simp only [hln, List.mem_append, List.mem_cons, List.not_mem_nil, or_false] at hc
  rcases hc with (hc | hc | hc) | hc
  · have := tok_c c (h1 c hc); exact ⟨this.1, this.2.1⟩
  · rw [hc]; decide
  · rw [hc]; decide
  · exact val_c c (h2 c hc)
theorem stL_noC (st : Int) (h : reM st ≠ []) : noC (stL st) := by
  obtain ⟨j, hj, rfl⟩ := reF_lt st 18 0 rfl h
  rw [stL_stX j hj]
  have : ∀ j, j < 18 → ∀ c ∈ stX j, c ≠ 13 ∧ c ≠ 10 := by decide +kernel
  exact this j hj
theorem occ_first {s : List UInt8} {c : UInt8} {r : List UInt8} {j : Nat} (h : Lib.occAt s (c :: r) j = true) : s[j]? = some c := by
  unfold Lib.occAt at h
  rw [List.isPrefixOf_iff_prefix] at h
  obtain ⟨t, ht⟩ := h
  have : (s.drop j)[0]? = some c := by rw [← ht]; rfl
  rw [List.getElem?_drop] at this
  simpa using this
theorem occ_here (p u t : List UInt8) : Lib.occAt (p ++ u ++ t) u p.length = true := by
  unfold Lib.occAt
  rw [List.append_assoc, List.drop_left, List.isPrefixOf_iff_prefix]
  exact List.prefix_append _ _
/-- The first place of a text whose first byte does not stand ahead of it. -/
theorem index_app (p : List UInt8) (c : UInt8) (r t : List UInt8) (hp : ∀ x ∈ p, x ≠ c) : Lib.index (p ++ (c :: r) ++ t) (c :: r) = (p.length : Int) := by
  refine Lib.index_hit (fun j hj => ?_) (by simp) (occ_here p (c :: r) t)
  rw [Bool.eq_false_iff]
  intro h
  have h1 := occ_first h
  rw [List.append_assoc, List.getElem?_append_left hj] at h1
  exact hp c (List.mem_of_getElem? h1) rfl
theorem cut_hln (h : Hd) (ha : ansB h = true) : Lib.cut (hln h) [58, 32] = (h.1, h.2, true) := by
  obtain ⟨h1, _⟩ := ans_tok h ha
  have hi : Lib.index (hln h) [58, 32] = (h.1.length : Int) := index_app h.1 58 [32] h.2 (fun x hx => (tok_c x (h1 x hx)).2.2)
  unfold Lib.cut
  rw [hi, if_pos (by omega)]
  have e1 : ((h.1.length : Int)).toNat = h.1.length := by omega
  rw [e1]
  refine Prod.ext ?_ (Prod.ext ?_ rfl)
  · show (hln h).take h.1.length = h.1
    unfold hln; rw [List.append_assoc, List.take_left]
  · show (hln h).drop (h.1.length + 2) = h.2
    unfold hln
    rw [← List.drop_drop, List.append_assoc, List.drop_left]
    rfl
theorem ohF_hln (h : Hd) (ha : ansB h = true) : ohF (hln h) = some h := by
  unfold ohF
  rw [cut_hln h ha]
  have : ansB (h.1, h.2) = true := ha
  simp [this]
theorem ohM_lines : ∀ (H acc : List Hd), (∀ h ∈ H, ansB h = true) → ohM (H.map hln) acc = some (acc ++ H)
  | [], acc, _ => by simp [ohM]
  | h :: H, acc, hh => by
    rw [List.map_cons, ohM, ohF_hln h (hh h (by simp))]
    show ohM (H.map hln) (acc ++ [h]) = _
    rw [ohM_lines H _ (fun x hx => hh x (by simp [hx])), List.append_assoc]
    rfl
/-- Lines, joined. -/
def jn : List UInt8 → List (List UInt8) → List UInt8
  | l, [] => l
  | l, m :: L => l ++ [13, 10] ++ jn m L
theorem split_jn : ∀ (L : List (List UInt8)) (l : List UInt8), noC l → (∀ x ∈ L, noC x) → Lib.split (jn l L) [13, 10] = l :: L
  | [], l, hl, _ => by
    refine spl_miss _ _ ?_
    refine Lib.index_none fun j _ => ?_
    rw [Bool.eq_false_iff]
    intro h
    exact (hl 13 (List.mem_of_getElem? (occ_first h))).1 rfl
  | m :: L, l, hl, hL => by
    have hi : Lib.index (jn l (m :: L)) [13, 10] = (l.length : Int) := index_app l 13 [10] (jn m L) (fun x hx => (hl x hx).1)
    rw [spl_hit _ _ l.length (by simp) hi]
    have e1 : (jn l (m :: L)).take l.length = l := by show (l ++ [13, 10] ++ jn m L).take l.length = l; rw [List.append_assoc, List.take_left]
    have e2 : (jn l (m :: L)).drop (l.length + ([13, 10] : List UInt8).length) = jn m L := by
      show (l ++ [13, 10] ++ jn m L).drop (l.length + 2) = _
      rw [← List.drop_drop, List.append_assoc, List.drop_left]
      rfl
    rw [e1, e2, split_jn L m (hL m (by simp)) (fun x hx => hL x (by simp [hx]))]
theorem jn_first (m : List UInt8) (hm : noC m) (hne : m ≠ []) (L : List (List UInt8)) (u : List UInt8) : (jn m L ++ u)[0]? ≠ some 13 := by
  cases m with
  | nil => exact absurd rfl hne
  | cons a r =>
    have ha := (hm a (by simp)).1
    intro h
    cases L with
    | nil => simp [jn] at h; exact ha h
    | cons x L => simp [jn] at h; exact ha h
theorem noocc_jn : ∀ (L : List (List UInt8)) (l t : List UInt8), noC l → (∀ x ∈ L, noC x ∧ x ≠ []) → Lib.NoOcc (jn l L ++ hend ++ t) hend (jn l L).length
  | [], l, t, hl, _ => fun j hj => by
    rw [Bool.eq_false_iff]
    intro h
    have h1 := occ_first (c := 13) (r := [10, 13, 10]) h
    rw [List.append_assoc, List.getElem?_append_left hj] at h1
    exact (hl 13 (List.mem_of_getElem? h1)).1 rfl
  | m :: L, l, t, hl, hL => fun j hj => by
    have ih := noocc_jn L m t (hL m (by simp)).1 (fun x hx => hL x (by simp [hx]))
    have es : jn l (m :: L) ++ hend ++ t = l ++ ([13, 10] ++ (jn m L ++ hend ++ t)) := by simp [jn, List.append_assoc]
    have el : (jn l (m :: L)).length = l.length + 2 + (jn m L).length := by simp [jn]; omega
    rw [es]
    rw [el] at hj
    rw [Bool.eq_false_iff]
    intro h
    by_cases h1 : j < l.length
    · have h2 := occ_first (c := 13) (r := [10, 13, 10]) h
      rw [List.getElem?_append_left h1] at h2
      exact (hl 13 (List.mem_of_getElem? h2)).1 rfl
    · by_cases h2 : j = l.length
      · subst h2
        unfold Lib.occAt at h
        rw [List.drop_left, List.isPrefixOf_iff_prefix] at h
        obtain ⟨u, hu⟩ := h
        have h3 : (jn m L ++ hend ++ t)[0]? = some 13 := by
          have h4 : ([13, 10] ++ (jn m L ++ hend ++ t))[2]? = some 13 := by rw [← hu]; rfl
          simpa using h4
        rw [List.append_assoc] at h3
        exact jn_first m (hL m (by simp)).1 (hL m (by simp)).2 L _ h3
      · by_cases h3 : j = l.length + 1
        · have h4 := occ_first (c := 13) (r := [10, 13, 10]) h
          rw [List.getElem?_append_right (by omega), h3, show l.length + 1 - l.length = 1 by omega] at h4
          simp at h4
        · have h5 := ih (j - l.length - 2) (by omega)
          rw [Bool.eq_false_iff] at h5
          apply h5
          unfold Lib.occAt at h ⊢
          have e : (l ++ ([13, 10] ++ (jn m L ++ hend ++ t))).drop j = (jn m L ++ hend ++ t).drop (j - l.length - 2) := by
            rw [show j = l.length + (2 + (j - l.length - 2)) by omega, ← List.drop_drop, List.drop_left, ← List.drop_drop, show l.length + (2 + (j - l.length - 2)) - l.length - 2 = j - l.length - 2 by omega]
            rfl
          rw [e] at h
          exact h
/-- Where a head ends. -/
theorem index_jn (L : List (List UInt8)) (l t : List UInt8) (hl : noC l) (hL : ∀ x ∈ L, noC x ∧ x ≠ []) : Lib.index (jn l L ++ hend ++ t) hend = ((jn l L).length : Int) :=
  Lib.index_hit (noocc_jn L l t hl hL) (by simp) (occ_here (jn l L) hend t)
#print axioms index_jn
#print axioms split_jn
#print axioms ohM_lines
end Go.Proofs.YtonaekkenggmbaaGreatDoor
end
section
set_option linter.unusedVariables false
set_option maxRecDepth 100000
namespace Go.Proofs.YtonaekkenggmbaaGreatDoor
open Go.RowKit

theorem dig48 : ∀ d, d < 10 → digB (UInt8.ofNat (48 + d)) = true ∧ (UInt8.ofNat (48 + d)).toNat = 48 + d := by decide +kernel
theorem dec_snoc (c : UInt8) (h : digB c = true) : ∀ (l : List UInt8) (acc : Nat), Lib.decFrom acc (l ++ [c]) = (Lib.decFrom acc l).map (fun a => a * 10 + (c.toNat - 48))
  | [], acc => by
    show Lib.decFrom acc [c] = _
    unfold Lib.decFrom
    rw [dig_val c h]
    rfl
  | x :: l, acc => by
    rw [List.cons_append]
    unfold Lib.decFrom
    cases hx : Lib.digitVal x with
    | none => rfl
    | some d => exact dec_snoc c h l _
theorem dec_digits (n : Nat) : (Lib.decDigits n).all digB = true ∧ Lib.decFrom 0 (Lib.decDigits n) = some n ∧ Lib.decDigits n ≠ [] := by
  induction n using Nat.strongRecOn with
  | _ n ih =>
    by_cases h : n < 10
    · rw [Lib.decDigits_one h]
      have := dig48 n h
      refine ⟨by rw [List.all_cons, this.1]; rfl, ?_, by simp⟩
      unfold Lib.decFrom
      rw [dig_val _ this.1, this.2]
      show Lib.decFrom _ [] = _
      unfold Lib.decFrom
      simp
    · rw [Lib.decDigits, dif_neg h]
      obtain ⟨h1, h2, h3⟩ := ih (n / 10) (by omega)
      have hd := dig48 (n % 10) (by omega)
      refine ⟨by rw [List.all_append, h1, List.all_cons, hd.1]; rfl, ?_, by simp⟩
      rw [dec_snoc _ hd.1, h2, hd.2]
      simp
      omega
theorem dec_len : ∀ (k n : Nat), n < 10 ^ (k + 1) → (Lib.decDigits n).length ≤ k + 1
  | 0, n, h => by rw [Lib.decDigits_one (by simpa using h)]; simp
  | k + 1, n, h => by
    by_cases h10 : n < 10
    · rw [Lib.decDigits_one h10]; simp
    · rw [Lib.decDigits, dif_neg h10]
      have := dec_len k (n / 10) (by rw [Nat.pow_succ] at h; omega)
      simp
      omega
theorem rl_digs (n : Nat) (h : n < 1000000000) : rlM (Lib.decDigits n) = some n := by
  obtain ⟨h1, h2, h3⟩ := dec_digits n
  have h9 := dec_len 8 n h
  obtain ⟨m, e1, e2, _⟩ := rlM_some _ h1 h3 h9
  rw [e1]
  generalize Lib.decDigits n = D at *
  match D, h3 with
  | c :: r, _ =>
    have hc : digB c = true := by simp only [List.all_cons, Bool.and_eq_true] at h1; exact h1.1
    have h45 : (c == 45) = false := by rw [beq_eq_false_iff_ne]; rintro rfl; simp [digB] at hc
    have h43 : (c == 43) = false := by rw [beq_eq_false_iff_ne]; rintro rfl; simp [digB] at hc
    have h6 : Lib.decNat (c :: r) = some n := h2
    simp only [Lib.atoi, h45, h43, h6] at e2
    simp at e2
    have e3 : m = n := by omega
    rw [e3]
theorem hasP_app (p t : List UInt8) : Lib.hasPrefix (p ++ t) p = true := by
  unfold Lib.hasPrefix
  first
    | (rw [List.isPrefixOf_iff_prefix]; exact List.prefix_append _ _)
    | simp
theorem olM_line (n : Nat) (h : n < 1000000000) : olM (hln (nCL, Lib.itoa (n : Int))) = some n := by
  have e : hln (nCL, Lib.itoa (n : Int)) = pCL ++ Lib.itoa (n : Int) := rfl
  have hc : cpx (pCL ++ Lib.itoa (n : Int)) pCL = Lib.itoa (n : Int) := by
    unfold cpx
    rw [if_pos (hasP_app _ _), List.drop_left]
  unfold olM
  rw [e, if_pos (hasP_app _ _), hc, Lib.itoa_nonneg, rl_digs n h]
  simp [Lib.itoa_nonneg]
/-- The lines behind the first one. -/
def lnsG (st : Int) (H : List Hd) (B : List UInt8) : List Hd := H ++ (if st = 101 then [] else [(nCL, Lib.itoa (B.length : Int))])
theorem jn_flat : ∀ (G : List Hd) (l : List UInt8), jn l (G.map hln) ++ [13, 10] = l ++ [13, 10] ++ G.flatMap hline
  | [], l => by simp [jn]
  | h :: G, l => by
    rw [List.map_cons]
    show l ++ [13, 10] ++ jn (hln h) (G.map hln) ++ [13, 10] = _
    rw [List.append_assoc, jn_flat G (hln h), List.flatMap_cons, hline_hln]
theorem awH_jn (st : Int) (H : List Hd) (B : List UInt8) : awH st H B = jn (stL st) ((lnsG st H B).map hln) ++ [13, 10] := by
  rw [jn_flat]
  unfold awH lnsG
  rw [List.flatMap_append]
  split <;> simp [List.append_assoc]
#print axioms olM_line
#print axioms awH_jn
end Go.Proofs.YtonaekkenggmbaaGreatDoor
end
section
set_option linter.unusedVariables false
set_option maxRecDepth 100000
namespace Go.Proofs.YtonaekkenggmbaaGreatDoor
open Go.RowKit

theorem dig_noC (c : UInt8) (h : digB c = true) : c ≠ 13 ∧ c ≠ 10 := all256 (fun c => digB c = true → c ≠ 13 ∧ c ≠ 10) (by decide +kernel) c h
/-- An answer that Write takes. -/
structure Okw (st : Int) (H : List Hd) (B : List UInt8) : Prop where
  re : reM st ≠ []
  len : H.length < 32
  ans : ∀ h ∈ H, ansB h = true
  body : B.length ≤ 32768
  sw : st = 101 → B = []
  head : (awH st H B).length - 2 ≤ 8192
theorem okw (st : Int) (H : List Hd) (B : List UInt8) (h : awE st H B = 0) : Okw st H B := by
  unfold awE at h
  split at h
  · cases h
  · split at h
    · cases h
    · split at h
      · cases h
      · split at h
        · cases h
        · rename_i h1 h2 h3 h4
          rw [not_or] at h2 h3
          refine ⟨h1, by omega, fun x hx => ?_, by omega, fun e => ?_, by omega⟩
          · apply Classical.byContradiction
            intro hn
            apply h2.2
            refine List.any_eq_true.2 ⟨x, hx, ?_⟩
            unfold noA
            rw [Bool.not_eq_true] at hn
            show (!ansB x) = true
            rw [hn]; rfl
          · apply List.eq_nil_of_length_eq_zero
            apply Classical.byContradiction
            intro hn
            exact h3.2 ⟨e, by omega⟩
def hdO (st : Int) (H : List Hd) (B : List UInt8) : List UInt8 := jn (stL st) ((lnsG st H B).map hln)
theorem hln_ne (h : Hd) : hln h ≠ [] := by simp [hln]
theorem last_noC (n : Nat) : noC (hln (nCL, Lib.itoa (n : Int))) := by
  intro c hc
  simp only [hln, List.mem_append, List.mem_cons, List.not_mem_nil, or_false] at hc
  rcases hc with (hc | hc | hc) | hc
  · have : ∀ c ∈ nCL, c ≠ 13 ∧ c ≠ 10 := by decide
    exact this c hc
  · rw [hc]; decide
  · rw [hc]; decide
  · rw [Lib.itoa_nonneg] at hc
    exact dig_noC c (List.all_eq_true.1 (dec_digits n).1 c hc)
theorem lines_ok (st : Int) (H : List Hd) (B : List UInt8) (o : Okw st H B) : ∀ x ∈ (lnsG st H B).map hln, noC x ∧ x ≠ [] := by
  intro x hx
  obtain ⟨h, hh, rfl⟩ := List.mem_map.1 hx
  refine ⟨?_, hln_ne h⟩
  unfold lnsG at hh
  rcases List.mem_append.1 hh with hh | hh
  · exact hln_noC h (o.ans h hh)
  · split at hh
    · cases hh
    · simp at hh
      rw [hh]
      exact last_noC B.length
theorem awR_hd (st : Int) (H : List Hd) (B : List UInt8) (h : awE st H B = 0) : awR st H B = hdO st H B ++ hend ++ B := by
  unfold awR
  rw [if_pos h, awH_jn]
  simp [hdO, hend, List.append_assoc]
theorem hdO_len (st : Int) (H : List Hd) (B : List UInt8) (o : Okw st H B) : (hdO st H B).length ≤ 8192 := by
  have h := o.head
  rw [awH_jn] at h
  simp at h
  exact h
/-- The head of whatever begins with it. -/
theorem chM_hd (st : Int) (H : List Hd) (B t : List UInt8) (o : Okw st H B) : chM (hdO st H B ++ hend ++ t) = (hdO st H B, 0) := by
  have hl := hdO_len st H B o
  have h4 : hend.length = 4 := rfl
  have hF : chF (hdO st H B ++ hend ++ t) = hdO st H B ++ hend ++ t.take (min (hdO st H B ++ hend ++ t).length 8196 - ((hdO st H B).length + 4)) := by
    unfold chF
    rw [List.take_append, List.take_of_length_le (by simp [h4]; omega)]
    congr 2
    simp [h4]
  have hi : Lib.index (chF (hdO st H B ++ hend ++ t)) hend = ((hdO st H B).length : Int) := by
    rw [hF]
    exact index_jn _ _ _ (stL_noC st o.re) (lines_ok st H B o)
  unfold chM
  rw [hi, if_pos (by omega), hF]
  refine Prod.ext ?_ rfl
  show (hdO st H B ++ hend ++ _).take ((hdO st H B).length : Int).toNat = _
  rw [show ((hdO st H B).length : Int).toNat = (hdO st H B).length by omega, List.append_assoc, List.take_left]
theorem ra_hd (st : Int) (H : List Hd) (B : List UInt8) (o : Okw st H B) : RA (hdO st H B) st H B.length := by
  have hs : Lib.split (hdO st H B) [13, 10] = stL st :: (lnsG st H B).map hln := split_jn _ _ (stL_noC st o.re) (fun x hx => (lines_ok st H B o x hx).1)
  refine ⟨stL st, (lnsG st H B).map hln, hs, o.re, rfl, ?_, ?_⟩
  · have := o.len
    unfold lnsG
    split <;> simp <;> omega
  · by_cases e : st = 101
    · refine .inl ⟨e, by rw [o.sw e]; rfl, ?_⟩
      have : lnsG st H B = H := by unfold lnsG; rw [if_pos e, List.append_nil]
      rw [this]
      exact ohM_lines H [] o.ans
    · have hg : lnsG st H B = H ++ [(nCL, Lib.itoa (B.length : Int))] := by unfold lnsG; rw [if_neg e]
      refine .inr ⟨e, hln (nCL, Lib.itoa (B.length : Int)), ?_, olM_line B.length (by have := o.body; omega), ?_⟩
      · rw [hg]; simp
      · rw [hg]
        have : (List.map hln (H ++ [(nCL, Lib.itoa (B.length : Int))])).take ((List.map hln (H ++ [(nCL, Lib.itoa (B.length : Int))])).length - 1) = H.map hln := by simp
        rw [this]
        exact ohM_lines H [] o.ans
/-- A head says one thing. -/
theorem ra_one {hd : List UInt8} {s s' : Int} {H H' : List Hd} {n n' : Nat} (h : RA hd s H n) (h' : RA hd s' H' n') : s = s' ∧ H = H' ∧ n = n' := by
  obtain ⟨l0, rest, e1, e2, e3, e4, e5⟩ := h
  obtain ⟨l0', rest', f1, f2, f3, f4, f5⟩ := h'
  rw [e1] at f1
  simp only [List.cons.injEq] at f1
  obtain ⟨rfl, rfl⟩ := f1
  have hs : s = s' := by
    have a := st_digits s e2
    have b := st_digits s' f2
    rw [← e3] at a
    rw [← f3, a] at b
    exact Option.some.inj b
  subst hs
  rcases e5 with ⟨x1, x2, x3⟩ | ⟨x1, last, x2, x3, x4⟩ <;> rcases f5 with ⟨y1, y2, y3⟩ | ⟨y1, last', y2, y3, y4⟩
  · rw [x3] at y3; exact ⟨rfl, Option.some.inj y3, x2.trans y2.symm⟩
  · exact absurd x1 y1
  · exact absurd y1 x1
  · rw [x2] at y2
    obtain rfl := Option.some.inj y2
    rw [x3] at y3
    rw [x4] at y4
    exact ⟨rfl, Option.some.inj y4, Option.some.inj y3⟩
/-- What was written is read, whatever stands behind. -/
theorem read_back (st : Int) (H : List Hd) (B t : List UInt8) (h : awE st H B = 0) (s : Int) (H' : List Hd) (B' : List UInt8) (cnt E : Nat) (hr : RdR (awR st H B ++ t) s H' B' cnt E) : E = 0 ∧ s = st ∧ H' = H ∧ B' = B ∧ cnt = (awR st H B).length := by
  have o := okw st H B h
  have hc : chM (awR st H B ++ t) = (hdO st H B, 0) := by rw [awR_hd st H B h, List.append_assoc]; exact chM_hd st H B (B ++ t) o
  have hra := ra_hd st H B o
  have hlen : (awR st H B ++ t).length = (hdO st H B).length + 4 + B.length + t.length := by rw [awR_hd st H B h]; simp [hend]; omega
  rcases hr with ⟨e0, _, n, r1, r2, r3, r4, r5⟩ | ⟨e0, _, _, _, _, re⟩
  · rw [hc] at r1 r3 r4 r5
    obtain ⟨rfl, rfl, rfl⟩ := ra_one hra r1
    refine ⟨e0, rfl, rfl, ?_, ?_⟩
    · rw [r4, awR_hd st H B h]
      simp only [List.append_assoc]
      rw [← List.drop_drop, List.drop_left]
      show (B ++ t).take B.length = B
      rw [List.take_left]
    · rw [r5, awR_hd st H B h]
      simp [hend]; omega
  · exfalso
    rcases re with ⟨r1, _⟩ | ⟨_, r2⟩
    · rw [hc] at r1; exact r1 rfl
    · rw [hc] at r2
      rcases r2 with ⟨r3, _⟩ | ⟨s2, H2, n2, r3, r4⟩
      · exact r3 _ _ _ hra
      · obtain ⟨rfl, rfl, rfl⟩ := ra_one hra r3
        have := o.body
        rcases r4 with ⟨r5, _⟩ | ⟨_, r5, _⟩
        · omega
        · rw [hlen] at r5; simp only at r5; omega
theorem occ_take {s u : List UInt8} {k j : Nat} (h : Lib.occAt (s.take k) u j = true) : Lib.occAt s u j = true := by
  unfold Lib.occAt at h ⊢
  rw [List.isPrefixOf_iff_prefix] at h ⊢
  refine h.trans ?_
  rw [List.drop_take]
  exact List.take_prefix _ _
theorem idx_occ (s u : List UInt8) (h : 0 ≤ Lib.index s u) : Lib.occAt s u (Lib.index s u).toNat = true := by
  rcases Lib.index_spec s u with ⟨e, _⟩ | ⟨i, e, _, ho, _⟩
  · rw [e] at h; omega
  · rw [e]; exact ho
/-- A beginning is too short. -/
theorem read_short (st : Int) (H : List Hd) (B : List UInt8) (h : awE st H B = 0) (k : Nat) (hk : k < (awR st H B).length) (s : Int) (H' : List Hd) (B' : List UInt8) (cnt E : Nat) (hr : RdR ((awR st H B).take k) s H' B' cnt E) : E = 2 ∧ cnt = 0 := by
  have o := okw st H B h
  have hl := hdO_len st H B o
  have h4 : hend.length = 4 := rfl
  have hlen : (awR st H B).length = (hdO st H B).length + 4 + B.length := by rw [awR_hd st H B h]; simp [hend]; omega
  by_cases hs : k < (hdO st H B).length + 4
  · have hF : chF ((awR st H B).take k) = (awR st H B).take k := by
      unfold chF
      exact List.take_of_length_le (by simp; omega)
    have hi : ¬ 0 ≤ Lib.index (chF ((awR st H B).take k)) hend := by
      intro h0
      have hroom := Lib.index_room _ _ h0
      have ho := idx_occ _ _ h0
      rw [hF] at hroom ho
      have ho2 := occ_take ho
      obtain ⟨z, hz0⟩ : ∃ z, z = (Lib.index ((awR st H B).take k) hend).toNat := ⟨_, rfl⟩
      rw [← hz0, awR_hd st H B h] at ho2
      have hno := noocc_jn ((lnsG st H B).map hln) (stL st) B (stL_noC st o.re) (lines_ok st H B o)
      have hz : z < (hdO st H B).length := by
        rw [List.length_take, h4] at hroom
        rw [hF] at h0
        omega
      have h9 : Lib.occAt (hdO st H B ++ hend ++ B) hend z = false := hno z hz
      rw [ho2] at h9
      cases h9
    have hc : chM ((awR st H B).take k) = ([], 2) := by
      unfold chM
      rw [if_neg hi, if_neg (by simp; omega)]
    rcases hr with ⟨_, e1, _⟩ | ⟨e0, _, _, _, e4, re⟩
    · rw [hc] at e1; cases e1
    · refine ⟨?_, e4⟩
      rcases re with ⟨_, r2⟩ | ⟨r1, _⟩
      · rw [hc] at r2; exact r2
      · rw [hc] at r1; cases r1
  · have ht : (awR st H B).take k = hdO st H B ++ hend ++ B.take (k - ((hdO st H B).length + 4)) := by
      rw [awR_hd st H B h, List.take_append, List.take_of_length_le (by simp [h4]; omega)]
      congr 2
      simp [h4]
    have hc : chM ((awR st H B).take k) = (hdO st H B, 0) := by rw [ht]; exact chM_hd st H B _ o
    have hra := ra_hd st H B o
    have hkl : ((awR st H B).take k).length = k := by simp; omega
    rcases hr with ⟨e0, _, n, r1, r2, r3, r4, r5⟩ | ⟨e0, _, _, _, e4, re⟩
    · exfalso
      rw [hc] at r1 r3
      obtain ⟨_, _, rfl⟩ := ra_one hra r1
      rw [hkl] at r3
      simp only at r3
      omega
    · refine ⟨?_, e4⟩
      rcases re with ⟨r1, _⟩ | ⟨_, r2⟩
      · rw [hc] at r1; exact absurd rfl r1
      · rw [hc] at r2
        rcases r2 with ⟨r3, _⟩ | ⟨s2, H2, n2, r3, r4⟩
        · exact absurd hra (r3 _ _ _)
        · obtain ⟨_, _, rfl⟩ := ra_one hra r3
          have := o.body
          rcases r4 with ⟨r5, _⟩ | ⟨_, _, r6⟩
          · omega
          · exact r6
#print axioms read_back
#print axioms read_short
end Go.Proofs.YtonaekkenggmbaaGreatDoor
end
section
set_option linter.unusedVariables false
set_option maxRecDepth 100000
namespace Go.Proofs.YtonaekkenggmbaaGreatDoor
open Go.RowKit

theorem whM_cases (t s : List UInt8) : (Lib.index s t = -1 ∧ whM t s = s.length) ∨ ∃ i : Nat, Lib.index s t = (i : Int) ∧ whM t s = i ∧ i + t.length ≤ s.length := by
  have h0 := Lib.index_ge s t
  by_cases h : 0 ≤ Lib.index s t
  · have hr := Lib.index_room s t h
    refine .inr ⟨(Lib.index s t).toNat, by omega, ?_, by omega⟩
    unfold whM; rw [if_pos h]
  · refine .inl ⟨by omega, ?_⟩
    unfold whM; rw [if_neg h]
/-- A header's line, as the reference asks. -/
theorem ohF_wh (s : List UInt8) : ohF s = if whM [58, 32] s = s.length then none else if plB (s.take (whM [58, 32] s), s.drop (whM [58, 32] s + 2)) then some (s.take (whM [58, 32] s), s.drop (whM [58, 32] s + 2)) else none := by
  unfold ohF Lib.cut
  rcases whM_cases [58, 32] s with ⟨h1, h2⟩ | ⟨i, h1, h2, h3⟩
  · rw [h1, h2, if_pos rfl]; rfl
  · have hl : ([58, 32] : List UInt8).length = 2 := rfl
    rw [hl] at h3
    have e0 : ¬ i = s.length := by omega
    rw [h1, h2, if_neg e0, pl_ans]
    simp only [Int.toNat_natCast, hl, if_pos (show (0 : Int) ≤ (i : Int) by omega), Bool.true_and]
/-- An answer's head, by its lines. -/
def RAL (l0 : List UInt8) (rest : List (List UInt8)) (s : Int) (H : List Hd) (n : Nat) : Prop :=
  reM s ≠ [] ∧ l0 = stL s ∧ rest.length ≤ 32 ∧ ((s = 101 ∧ n = 0 ∧ ohM rest [] = some H) ∨ (s ≠ 101 ∧ ∃ last, rest.getLast? = some last ∧ olM last = some n ∧ ohM (rest.take (rest.length - 1)) [] = some H))
theorem ra_ral {hd l0 : List UInt8} {rest : List (List UInt8)} (h : Lib.split hd [13, 10] = l0 :: rest) (s : Int) (H : List Hd) (n : Nat) : RA hd s H n ↔ RAL l0 rest s H n := by
  constructor
  · rintro ⟨a, b, e1, e2⟩
    rw [h] at e1
    simp only [List.cons.injEq] at e1
    obtain ⟨rfl, rfl⟩ := e1
    exact e2
  · intro e
    exact ⟨l0, rest, h, e⟩
def RALs (l0 : List UInt8) (rest : List (List UInt8)) (s : Int) (H : List Hd) (n : Nat) (b : Bool) : Prop := (b = true → RAL l0 rest s H n) ∧ (b = false → ∀ s H n, ¬ RAL l0 rest s H n)
/-- The last line, as the reference asks. -/
theorem olM_ref (l : List UInt8) : olM l = if pCL.isPrefixOf l then (if nuM (l.drop 16) < 0 then none else if Lib.decDigits (nuM (l.drop 16)).toNat == l.drop 16 then some (nuM (l.drop 16)).toNat else none) else none := by
  unfold olM
  have e1 : Lib.hasPrefix l pCL = pCL.isPrefixOf l := rfl
  rw [e1]
  cases hp : pCL.isPrefixOf l with
  | false => rfl
  | true =>
    have e2 : cpx l pCL = l.drop 16 := by
      unfold cpx
      rw [e1, hp]
      rfl
    rw [e2]
    simp only [if_true]
    unfold nuM
    cases rlM (l.drop 16) with
    | none => rfl
    | some n =>
      simp only [Int.toNat_natCast]
      have e3 : ¬ ((n : Int) < 0) := by omega
      rw [if_neg e3, Lib.itoa_nonneg]
/-- The first line says one status. -/
theorem stL_one {s s' : Int} (h : reM s ≠ []) (h' : reM s' ≠ []) (e : stL s = stL s') : s = s' := by
  have a := st_digits s h
  have b := st_digits s' h'
  rw [e, b] at a
  exact (Option.some.inj a).symm
/-- What Read says is one thing. -/
theorem rd_one {l : List UInt8} {s s' : Int} {H H' : List Hd} {B B' : List UInt8} {c c' E E' : Nat} (h : RdR l s H B c E) (h' : RdR l s' H' B' c' E') : s = s' ∧ H = H' ∧ B = B' ∧ c = c' ∧ E = E' := by
  rcases h with ⟨e0, e1, n, r1, r2, r3, r4, r5⟩ | ⟨e0, e1, e2, e3, e4, re⟩ <;> rcases h' with ⟨f0, f1, m, q1, q2, q3, q4, q5⟩ | ⟨f0, f1, f2, f3, f4, rf⟩
  · obtain ⟨rfl, rfl, rfl⟩ := ra_one r1 q1
    exact ⟨rfl, rfl, r4.trans q4.symm, r5.trans q5.symm, e0.trans f0.symm⟩
  · exfalso
    rcases rf with ⟨a, _⟩ | ⟨_, a⟩
    · exact a e1
    · rcases a with ⟨a, _⟩ | ⟨s2, H2, n2, a1, a2⟩
      · exact a _ _ _ r1
      · obtain ⟨rfl, rfl, rfl⟩ := ra_one r1 a1
        rcases a2 with ⟨b1, _⟩ | ⟨_, b1, _⟩ <;> omega
  · exfalso
    rcases re with ⟨a, _⟩ | ⟨_, a⟩
    · exact a f1
    · rcases a with ⟨a, _⟩ | ⟨s2, H2, n2, a1, a2⟩
      · exact a _ _ _ q1
      · obtain ⟨rfl, rfl, rfl⟩ := ra_one q1 a1
        rcases a2 with ⟨b1, _⟩ | ⟨_, b1, _⟩ <;> omega
  · refine ⟨e1.trans f1.symm, e2.trans f2.symm, e3.trans f3.symm, e4.trans f4.symm, ?_⟩
    rcases re with ⟨a, a'⟩ | ⟨a, a'⟩ <;> rcases rf with ⟨b, b'⟩ | ⟨b, b'⟩
    · exact a'.trans b'.symm
    · exact absurd b a
    · exact absurd a b
    · rcases a' with ⟨x, x'⟩ | ⟨s2, H2, n2, x1, x2⟩ <;> rcases b' with ⟨y, y'⟩ | ⟨s3, H3, n3, y1, y2⟩
      · exact x'.trans y'.symm
      · exact absurd y1 (x _ _ _)
      · exact absurd x1 (y _ _ _)
      · obtain ⟨_, _, rfl⟩ := ra_one x1 y1
        rcases x2 with ⟨u, u'⟩ | ⟨u, u', u''⟩ <;> rcases y2 with ⟨v, v'⟩ | ⟨v, v', v''⟩ <;> omega
theorem idx_take (l : List UInt8) (k : Nat) (hk : k ≤ l.length) : (Lib.index (l.take k) hend = Lib.index l hend ∧ 0 ≤ Lib.index l hend ∧ Lib.index l hend + 4 ≤ (k : Int)) ∨ (Lib.index (l.take k) hend = -1 ∧ (Lib.index l hend = -1 ∨ (k : Int) < Lib.index l hend + 4)) := by
  have h4 : hend.length = 4 := rfl
  rcases Lib.index_spec (l.take k) hend with ⟨e, no⟩ | ⟨i, e, hi, ho, no⟩
  · right
    refine ⟨e, ?_⟩
    rcases Lib.index_spec l hend with ⟨f, _⟩ | ⟨j, f, hj, hoj, _⟩
    · exact .inl f
    · right
      apply Classical.byContradiction
      intro hn
      have hk2 : j + 4 ≤ k := by omega
      have : Lib.occAt (l.take k) hend j = true := by
        unfold Lib.occAt at hoj ⊢
        rw [List.isPrefixOf_iff_prefix] at hoj ⊢
        rw [List.drop_take, List.prefix_take_iff]
        exact ⟨hoj, by rw [h4]; omega⟩
      rw [no j (by simp; omega)] at this
      cases this
  · left
    have hroom := Lib.index_room (l.take k) hend (by omega)
    rw [e, h4, List.length_take] at hroom
    have ho2 := occ_take ho
    rcases Lib.index_spec l hend with ⟨f, nf⟩ | ⟨j, f, hj, hoj, nj⟩
    · rw [nf i (by omega)] at ho2; cases ho2
    · have hij : i = j := by
        rcases Nat.lt_trichotomy i j with h | h | h
        · have := nj i h; rw [ho2] at this; cases this
        · exact h
        · have := no j h
          have h2 : Lib.occAt (l.take k) hend j = true := by
            unfold Lib.occAt at hoj ⊢
            rw [List.isPrefixOf_iff_prefix] at hoj ⊢
            rw [List.drop_take, List.prefix_take_iff]
            exact ⟨hoj, by rw [h4]; omega⟩
          rw [h2] at this; cases this
      subst hij
      exact ⟨e.trans f.symm, by omega, by omega⟩
/-- Where the head ends, by the place of its end in all bytes. -/
theorem chM_wh (l : List UInt8) :
    ((8192 < whM hend l ∧ (whM hend l < l.length ∨ 8196 ≤ whM hend l)) → chM l = ([], 80)) ∧
    (¬ (8192 < whM hend l ∧ (whM hend l < l.length ∨ 8196 ≤ whM hend l)) → whM hend l = l.length → chM l = ([], 2)) ∧
    (¬ (8192 < whM hend l ∧ (whM hend l < l.length ∨ 8196 ≤ whM hend l)) → whM hend l ≠ l.length → chM l = (l.take (whM hend l), 0) ∧ whM hend l ≤ 8192 ∧ whM hend l + 4 ≤ l.length) := by
  have h4 : hend.length = 4 := rfl
  have hF : chF l = l.take (min l.length 8196) := rfl
  have hm : min l.length 8196 ≤ l.length := Nat.min_le_left _ _
  have hx := idx_take l (min l.length 8196) hm
  rw [← hF] at hx
  rcases whM_cases hend l with ⟨h1, h2⟩ | ⟨i, h1, h2, h3⟩
  · rw [h1] at hx
    have hi : ¬ 0 ≤ Lib.index (chF l) hend := by omega
    refine ⟨fun h => ?_, fun h _ => ?_, fun _ h => absurd h2 h⟩
    · unfold chM; rw [if_neg hi, if_pos (by omega)]
    · unfold chM; rw [if_neg hi, if_neg (by omega)]
  · rw [h4] at h3
    rw [h1] at hx
    refine ⟨fun h => ?_, fun h e => by omega, fun h e => ⟨?_, by omega, by omega⟩⟩
    · unfold chM; rw [if_neg (by omega), if_pos (by omega)]
    · have hi : Lib.index (chF l) hend = (i : Int) := by omega
      unfold chM
      rw [hi, if_pos (by omega), h2, hF]
      refine Prod.ext ?_ rfl
      show (l.take _).take (i : Int).toNat = _
      rw [Int.toNat_natCast, List.take_take, Nat.min_eq_left (by omega)]
#print axioms rd_one
#print axioms chM_wh
end Go.Proofs.YtonaekkenggmbaaGreatDoor
end
