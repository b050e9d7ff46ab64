/-
  httpd's reader: a byte of a head is taken.; httpd: a new reader; bytes that it takes; Parse.; httpd: Parse, whatever the bytes (with what readHead answers).
-/
import Derived.Test.YtonaekkenggmbaaGreatDoorPkHadsah
import Derived.Lib.SlBytesConst
section
set_option linter.unusedVariables false
set_option maxRecDepth 1000000
namespace Go.Proofs.YtonaekkenggmbaaGreatDoor
open Go.RowKit

/-- What is asked of the world stays, if the first blocks do. -/
def EK (E : World → Prop) (B : Nat) : Prop := ∀ w w' : World, E w → B ≤ w.heap.size → (∀ k, k < B → w'.heap[k]? = w.heap[k]?) → E w'
theorem EK.kp {E : World → Prop} {B : Nat} (h : EK E B) {w w' : World} {g : Nat → Nat} (hE : E w) (hB : B ≤ w.heap.size) (hg : ∀ k, g k ≠ 0 → B ≤ k) (hk : Kp w w' (fun k => g k ≠ 0)) : E w' :=
  h w w' hE hB (fun k hk2 => hk.block k (by omega) (fun e => by have := hg k e; omega))
theorem EK.below {E : World → Prop} {B : Nat} (h : EK E B) {w w' : World} (hE : E w) (hB : B ≤ w.heap.size) (hb : Below w.heap.size w w') : E w' := h w w' hE hB (fun k hk => hb.block k (by omega))

/-- What a byte more of a head leaves. -/
structure HdP (w V : World) (g g' : Nat → Nat) (r a b : Nat) (tk : Value) (Q : Rq) (hp : Option Addr) (hc : Nat) (bp : Option Addr) (bc : Nat) (x : Option Addr) (cx : Nat) (l : List UInt8) : Prop where
  rd : RdB V g' r tk Q hp hc bp bc
  kp : Kp w V (fun k => g k ≠ 0)
  old : ∀ k, k < w.heap.size → g' k = g k
  bx : Bx V a (.slice x l.length cx)
  own : OwnB V 0 x cx l
  tags : ∀ k, blk x = some k → g' k = 3
  rb : Bx V b (pt r)
theorem head_app {w w2 w3 : World} {g : Nat → Nat} {r a b : Nat} {tk : Value} {Q : Rq} {hp : Option Addr} {hc : Nat} {bp : Option Addr} {bc : Nat} {x x' : Option Addr} {cx cx' : Nat} {l l' : List UInt8} (h : RdB w g r tk Q hp hc bp bc) (hb : Below w.heap.size w w2)
    (ha : Bx w a (.slice x l.length cx)) (ga : g a = 2) (hx : ∀ k, blk x = some k → g k = 3) (hrb : Bx w b (pt r)) (gb : g b = 6)
    (ho : OwnB w3 0 x' cx' l') (hg : w2.grownBy w3 (blk x)) (hloc : x' = x ∨ ∀ k, blk x' = some k → w2.heap.size ≤ k) :
    ∃ g', HdP w (w3.setCell ⟨a, 0, none⟩ (.slice x' l'.length cx')) g g' r a b tk Q hp hc bp bc x' cx' l' := by
  have hr := h.lt
  have hal := ha.lt
  have hbs := hb.size
  have hgs := hg.size
  have same3 : ∀ k, k < w.heap.size → g k ≠ 3 → w3.heap[k]? = w.heap[k]? := fun k hk hn => (hg.block k (by omega) (fun e => hn (hx k e.symm))).trans (hb.block k hk)
  have ne : ∀ k, k ≠ a → (w3.setCell ⟨a, 0, none⟩ (.slice x' l'.length cx')).heap[k]? = w3.heap[k]? := fun k hk => Below.heap_setCell w3 ⟨a, 0, none⟩ _ k hk
  have hbp' : ∀ k, blk x' = some k → blk x = some k ∨ w.heap.size ≤ k := by
    intro k hk
    rcases hloc with e | e
    · left; rw [← e]; exact hk
    · right; have := e k hk; omega
  have tg : ∀ k, g k ≠ 0 → k < w.heap.size := h.inb
  refine ⟨fun k => if k < w.heap.size then g k else if blk x' = some k then 3 else 0, ?_, ?_, ?_, ?_, ?_, ?_, ?_⟩
  · refine h.same (fun k hk => ?_) (fun k hk => ?_)
    · simp only [World.setCell, Array.size_modify]
      by_cases h1 : k < w.heap.size
      · omega
      · simp only [if_neg h1] at hk
        by_cases h2 : blk x' = some k
        · exact (ho.lt k h2).2
        · simp [h2] at hk
    · have hk0 := tg k (by rcases hk with e | e | e <;> omega)
      refine ⟨(ne k (by rintro rfl; omega)).trans (same3 k hk0 (by omega)), by simp only [if_pos hk0]⟩
  · have k1 : Kp w w2 (fun k => g k ≠ 0) := Kp.of hb
    have k2 : Kp w2 w3 (fun k => g k ≠ 0) := Kp.ofG hg (fun k hk => by rw [hx k hk]; decide)
    exact (k1.trans k2).trans (Kp.ofG (gsc w3 ⟨a, 0, none⟩ _) (fun k hk => by cases hk; rw [ga]; decide))
  · intro k hk
    simp only [if_pos hk]
  · have h3 : Bx w3 a (.slice x l.length cx) := ha.of (same3 a hal (by omega))
    exact h3.set _
  · refine ho.same (fun k hk => ne k ?_)
    rintro rfl
    rcases hbp' k hk with h2 | h2
    · have := hx k h2; omega
    · omega
  · intro k hk
    by_cases h1 : k < w.heap.size
    · simp only [if_pos h1]
      rcases hbp' k hk with h2 | h2
      · exact hx k h2
      · omega
    · simp only [if_neg h1, if_pos hk]
  · exact hrb.of ((ne b (by rintro rfl; omega)).trans (same3 b hrb.lt (by omega)))
#print axioms head_app
theorem HdP.behind {w V V' : World} {g g' : Nat → Nat} {r a b : Nat} {tk : Value} {Q : Rq} {hp : Option Addr} {hc : Nat} {bp : Option Addr} {bc : Nat} {x : Option Addr} {cx : Nat} {l : List UInt8} (h : HdP w V g g' r a b tk Q hp hc bp bc x cx l) (hb : Below V.heap.size V V') : HdP w V' g g' r a b tk Q hp hc bp bc x cx l := by
  refine ⟨h.rd.below hb, h.kp.trans (Kp.of hb), h.old, h.bx.of (hb.block a h.bx.lt), h.own.below hb (Nat.le_refl _), h.tags, h.rb.of (hb.block b h.rb.lt)⟩
theorem row_lit' (w : World) (c : UInt8) (V : World) (h : V = w.alloc (.cells #[.int .u8 (c.toNat : Int)] 5)) : Row V (some ⟨w.heap.size, 0, none⟩) [c] := by rw [h]; exact row_lit w _ c rfl
theorem bs4 (w : World) : Bs (w.alloc (.cells #[.int .u8 13, .int .u8 10, .int .u8 13, .int .u8 10] 5 (4, 5))) (some ⟨w.heap.size, 0, none⟩) 4 hend := by
  refine ⟨fun _ => ⟨w.heap.size, 0, rfl, fun i hi => ?_⟩, by decide, by unfold maxLen; decide, fun h => by cases h⟩
  rw [cell_of_row _ _ _ _ _ _ (heap_alloc_new w _)]
  match i, hi with
  | 0, _ => rfl
  | 1, _ => rfl
  | 2, _ => rfl
  | 3, _ => rfl
set_option maxHeartbeats 8000000 in
theorem take_head (E : World → Prop) (B : Nat) (hEK : EK E B) (R : HdM) (hR : RHs E R) (hok : Rok R) (w : World) (g : Nat → Nat) (r : Nat) (tk : Value) (h : List UInt8) (Q : Rq) (hp : Option Addr) (hc : Nat) (bp : Option Addr) (bc : Nat) (c : UInt8) (a b : Nat) (x : Option Addr) (cx : Nat)
    (h0 : RdB w g r tk Q hp hc bp bc) (h1 : Bx w a (.slice x h.length cx)) (g1 : g a = 2) (h2 : OwnB w 0 x cx h) (g2 : ∀ k, blk x = some k → g k = 3) (h3 : Bx w b (pt r)) (g3 : g b = 6) (hl : h.length < 8196) (hE : E w) (hB : B ≤ w.heap.size) (hgB : ∀ k, g k ≠ 0 → B ≤ k)
    (htk : tk = .func (.func 97) #[] #[pt a, pt b]) :
    Calls Tryz.prog 97 #[.int .u8 (c.toNat : Int), pt a, pt b] w fun e w' => Ret w g r (stepM R (.head h) Q c) e w' := by
  have c1 := h1.cell
  have hal := h1.lt
  have hbl := h3.lt
  obtain ⟨W2, hW2⟩ : ∃ W2, W2 = (w.alloc (.cells #[.int .u8 (c.toNat : Int)] 5)) := ⟨_, rfl⟩
  have hB2 : Below w.heap.size w W2 := by rw [hW2]; exact ((Below.refl _ _).alloc (Nat.le_refl _) _)
  have hO2 : OwnB W2 0 x cx h := h2.below hB2 (Nat.le_refl _)
  have hR2 : Row W2 (some ⟨w.heap.size, 0, none⟩) [c] := row_lit' w c W2 hW2
  have hAP : ∀ (x' : Option Addr) (cx' : Nat) (l : List UInt8) (w3 : World), OwnB w3 0 x' cx' l → W2.grownBy w3 (blk x) → (x' = x ∨ ∀ k, blk x' = some k → W2.heap.size ≤ k) → ∃ g', HdP w (w3.setCell ⟨a, 0, none⟩ (.slice x' l.length cx')) g g' r a b tk Q hp hc bp bc x' cx' l :=
    fun x' cx' l w3 e2 e3 e4 => head_app h0 hB2 h1 g1 g2 h3 g3 e2 e3 e4
  have hST : ∀ (w3 : World), W2.grownBy w3 (blk x) → w3.cell? ⟨a, 0, none⟩ = some (.slice x h.length cx) ∧ w3.frozen? ⟨a, 0, none⟩ = false := by
    intro w3 hg
    have sa := h1.of ((hg.block a (by have := hB2.size; omega) (fun e => by have := g2 a e.symm; omega)).trans (hB2.block a hal))
    exact ⟨sa.cell, sa.fz⟩
  have HO2 := hide hO2
  have HR2 := hide hR2
  have HAP := hide hAP
  have HST := hide hST
  have HE := hide hE
  have HEK := hide hEK
  have HRR := hide (show RHs E R ∧ Rok R from ⟨hR, hok⟩)
  clear hO2 hR2 hAP hST h0 h1 h2 h3 hB2 hE hEK hR hok
  go_enter Tryz.func97, Tryz.ntmps97
  go_upto_region 2 with (rw [← hW2]; refine wp_app2 _ rfl _ _ rfl 0 x cx h rfl (unhide HO2) (some ⟨w.heap.size, 0, none⟩) 1 [c] _ rfl rfl (unhide HR2) (fun h => by cases h) (by simp; omega) (Nat.zero_le _) ?_; intro x' cx' l w3 hl3 ho3 hg3 hloc3; have k3 := unhide HST w3 hg3; have k30 := k3.1; have k31 := k3.2; clear k3)
  obtain ⟨g', hP⟩ := unhide HAP x' cx' l w3 ho3 hg3 (unhide hloc3)
  have hll : l.length = h.length + 1 := by rw [unhide hl3]; simp
  obtain ⟨V, hV⟩ : ∃ V, V = w3.setCell ⟨a, 0, none⟩ (.slice x' l.length cx') := ⟨_, rfl⟩
  rw [← hV] at hP ⊢
  have HL : Hid (l = h ++ [c]) := unhide hl3
  have HLL := hide hll
  have hlb : l.length ≤ 8196 := by omega
  have hVs : w.heap.size ≤ V.heap.size := hP.kp.size
  obtain ⟨V5, hV5⟩ : ∃ V5, V5 = V.alloc (.cells #[.int .u8 13, .int .u8 10, .int .u8 13, .int .u8 10] 5 (4, 5)) := ⟨_, rfl⟩
  have hb5 : Below V.heap.size V V5 := by rw [hV5]; exact (Below.refl _ _).alloc (Nat.le_refl _) _
  have hP5 := hP.behind hb5
  have HSX := hide (hasSuffix_any x' cx' l (some ⟨V.heap.size, 0, none⟩) 4 hend V5 hP5.own.toBs (by rw [hV5]; exact bs4 V))
  have ca := hP.bx.cell
  have ca5 := hP5.bx.cell
  have cb5 := hP5.rb.cell
  have kc := fun (w : World) (C : Array Value) (n c : Nat) => Lib.run_convert_bytes_const (P := Tryz.prog) w 28 5 C n c Tryz.underlying28 Tryz.underlying5
  have HP5 := hide hP5
  have HE5 : Hid (E V5) := (unhide HEK).kp (unhide HE) hB hgB hP5.kp
  have HS0 : Hid (stepM R (.head h) Q c = if hend <:+ l then bhM R Q (l.take (l.length - 4)) else if l.length = 8196 then (431, .head h, Q) else (1, .head l, Q)) := by
    show _ = _
    unfold stepM
    simp only
    rw [unhide HLL, unhide HL]
  clear hP hP5 hV hll hg3 ho3 hl3 hloc3 k30 k31 hW2 HO2 HR2 HAP HST c1 HL HLL
  by_cases hsf : hend <:+ l
  · rw [decide_eq_true hsf] at HSX
    have h4 : 4 ≤ l.length := hsf.length_le
    have HS : Hid (stepM R (.head h) Q c = bhM R Q (l.take (l.length - 4))) := by show _ = _; rw [unhide HS0, if_pos hsf]
    obtain ⟨H, hH⟩ : ∃ H, l.length - 4 = H := ⟨_, rfl⟩
    have hH2 : (l.length : Int) - 4 = (H : Int) := by omega
    have hHl : H ≤ l.length := by omega
    rw [hH] at HS
    have hwr : IntKind.i64.wrap (H : Int) = (H : Int) := by rw [IntKind.wrap_i64]; omega
    have hH0 : (0 : Int) ≤ (H : Int) := by omega
    have hHc : (H : Int) ≤ (cx' : Int) := by have := (unhide HP5).own.toBs.le; omega
    have HBB := hide ((unhide HP5).own.toBs.row.take H)
    have ks1 := run_str V5 x' H cx' (l.take H) (unhide HBB) (by simp; omega)
    have ks2 := run_str V5.drew x' H cx' (l.take H) ((unhide HBB).below ((Below.refl V5.heap.size V5).drew) (Nat.le_refl _)) (by simp; omega)
    have HBC := hide (fun wx (hb : Below V5.heap.size V5 wx) => behindHead_any E R (unhide HRR).1 (unhide HRR).2 wx g' r tk Q hp hc bp bc (l.take H) ((unhide HP5).rd.below hb) ((unhide HEK).below (unhide HE5) (by have := hb5.size; omega) hb) (by simp; omega))
    clear hsf hH HS0
    go_wp2_with fail
    rw [← hV5]
    refine (unhide HSX).mono ?_
    rintro e w2 ⟨rfl, rfl⟩
    clear hV5
    go_upto_region 3 with fail
    go_region_law (go_simp; go_at_call 99; refine (unhide HBC _ ((Below.refl _ _).drew)).mono ?_; rintro e w7 ⟨rfl, hr7⟩)
    all_goals
      go_wp2_with fail
      go_ret
      rw [unhide HS]
      exact Ret.behind ((unhide HP5).kp.trans (Kp.of ((Below.refl _ _).drew))) (fun k hk h0 => by rw [(unhide HP5).old k hk]; exact h0) ⟨rfl, hr7⟩
  · rw [decide_eq_false hsf] at HSX
    by_cases h8 : l.length = 8196
    · have h8' : ((l.length : Int) == 8196) = true := by rw [h8]; rfl
      have HS : Hid (stepM R (.head h) Q c = (431, .head h, Q)) := by show _ = _; rw [unhide HS0, if_neg hsf, if_pos h8]
      clear hsf HS0 h8
      go_wp2_with fail
      rw [← hV5]
      refine (unhide HSX).mono ?_
      rintro e w2 ⟨rfl, rfl⟩
      clear hV5
      go_wp2
      go_ret
      rw [unhide HS]
      exact ⟨rfl, g', tk, hp, hc, bp, bc, (unhide HP5).rd, fun e => (by cases e), (unhide HP5).kp, fun k hk h0 => by rw [(unhide HP5).old k hk]; exact h0⟩
    · have h8' : ((l.length : Int) == 8196) = false := by rw [beq_eq_false_iff_ne]; omega
      have HS : Hid (stepM R (.head h) Q c = (1, .head l, Q)) := by show _ = _; rw [unhide HS0, if_neg hsf, if_neg h8]
      have hl8 : l.length < 8196 := by omega
      have HX : Hid (stV g' V5 r (.head l) tk) := ⟨a, b, x', cx', htk, (unhide HP5).bx, ((unhide HP5).old a hal).trans g1, (unhide HP5).own, (unhide HP5).tags, (unhide HP5).rb, ((unhide HP5).old b hbl).trans g3, hl8⟩
      clear hsf HS0 h8 htk
      go_wp2_with fail
      rw [← hV5]
      refine (unhide HSX).mono ?_
      rintro e w2 ⟨rfl, rfl⟩
      clear hV5
      go_wp2
      go_ret
      rw [unhide HS]
      exact ⟨rfl, g', tk, hp, hc, bp, bc, (unhide HP5).rd, fun _ => unhide HX, (unhide HP5).kp, fun k hk h0 => by rw [(unhide HP5).old k hk]; exact h0⟩
#print axioms take_head
end Go.Proofs.YtonaekkenggmbaaGreatDoor
end
section
set_option linter.unusedVariables false
set_option maxRecDepth 1000000
namespace Go.Proofs.YtonaekkenggmbaaGreatDoor
open Go.RowKit

theorem two (w : World) (a b : Value) (A B : TypeId) : ∃ V, V = ((w.alloc (.cells #[a] A)).alloc (.cells #[b] B)) ∧ Below w.heap.size w V ∧ V.heap.size = w.heap.size + 2 ∧ Bx V w.heap.size a ∧ Bx V (w.heap.size + 1) b := by
  refine ⟨_, rfl, (((Below.refl _ _).alloc (Nat.le_refl _) _).alloc (by simp) _), by simp, ?_, ?_⟩
  · exact (Bx.new w a A).of (by rw [Below.heap_alloc _ _ _ (by simp)])
  · have := Bx.new (w.alloc (.cells #[a] A)) b B
    rw [show (w.alloc (.cells #[a] A)).heap.size = w.heap.size + 1 by simp] at this
    exact this
set_option maxHeartbeats 1000000 in
theorem head_any (w : World) (g : Nat → Nat) (r : Nat) (tk : Value) (Q : Rq) (hp : Option Addr) (hc : Nat) (bp : Option Addr) (bc : Nat) (h : RdB w g r tk Q hp hc bp bc) :
    Calls Tryz.prog 72 #[pt r] w fun e w' => Res w g r (1, .head []) Q hp hc bp bc e w' := by
  obtain ⟨V, hV, hb, hs, b0, b1⟩ := two w (pt r) (.slice none 0 0) 74 28
  have hr := h.lt
  have HG := hide (goOn_any V g r tk (.func 97) #[] #[pt (w.heap.size + 1), pt w.heap.size] Q hp hc bp bc (h.below hb))
  have HE : Hid (Rsx w g r (1, .head []) Q hp hc bp bc (V.setCell ⟨r, 0, none⟩ (.func (.func 97) #[] #[pt (w.heap.size + 1), pt w.heap.size]))) := by
    have h0 : RdB V (tagN g w.heap.size [6, 2]) r tk Q hp hc bp bc := (h.below hb).same (tagN_inb g _ _ _ (by simp; omega)) (fun k hk => ⟨rfl, tagN_old _ _ _ _ (h.inb k (by rcases hk with e | e | e <;> omega))⟩)
    obtain ⟨v, hv⟩ : ∃ v, v = (Value.func (.func 97) #[] #[pt (w.heap.size + 1), pt w.heap.size]) := ⟨_, rfl⟩
    rw [← hv]
    have ne : ∀ k, k ≠ r → (V.setCell ⟨r, 0, none⟩ v).heap[k]? = V.heap[k]? := fun k hk => Below.heap_setCell V ⟨r, 0, none⟩ v k hk
    have n0 := tagN_new g w.heap.size [6, 2] 0
    have n1 := tagN_new g w.heap.size [6, 2] 1
    refine ⟨_, v, h0.take v, fun _ => ⟨w.heap.size + 1, w.heap.size, none, 0, hv, b1.of (ne _ (by omega)), n1, OwnB.nil _ _, fun k hk => (by cases hk), b0.of (ne _ (by omega)), n0, by decide⟩, ?_, fun k hk h0 => by rw [tagN_old _ _ _ _ hk]; exact h0⟩
    exact (Kp.of hb : Kp w V _).trans (Kp.ofG (gsc V ⟨r, 0, none⟩ v) (fun k hk => by cases hk; rw [h.tag]; decide))
  have c0 := b0.cell
  clear b0 b1 hb h
  go_enter Tryz.func72, Tryz.ntmps72
  go_upto_region 2 with fail
  rw [← hV]
  clear hV
  go_wp2_with (go_at_call 96; refine (unhide HG).mono ?_; rintro e w2 ⟨rfl, rfl⟩)
  go_ret
  exact ⟨rfl, HE⟩
#print axioms head_any
set_option maxHeartbeats 1000000 in
theorem newReader_any (w : World) :
    Calls Tryz.prog 42 #[] w fun e w' => ∃ r g, e = .returned (pt r) ∧ Hid (Rd w' g r (.head []) Rq.nil) ∧ Hid (∀ k, g k ≠ 0 → w.heap.size ≤ k) ∧ Hid (Below w.heap.size w w') := by
  obtain ⟨V, hV⟩ : ∃ V, V = w.alloc (.cells #[.nilFunc, .string (str Rq.nil.m), .string (str Rq.nil.p), .slice none 0 0, .slice none 0 0] 82) := ⟨_, rfl⟩
  have hb : Below w.heap.size w V := by rw [hV]; exact (Below.refl _ _).alloc (Nat.le_refl _) _
  have hs : V.heap.size = w.heap.size + 1 := by rw [hV]; simp
  have hR : RdB V (tagN (fun _ => 0) w.heap.size [1]) w.heap.size .nilFunc Rq.nil none 0 none 0 := by
    refine ⟨tagN_inb _ _ _ _ (by simp; omega), tagN_new (fun _ => 0) w.heap.size [1] 0, ?_, ⟨fun h => absurd rfl h, Nat.zero_le _⟩, fun k hk => (by cases hk), OwnB.nil _ _, fun k hk => (by cases hk), by simp [Rq.nil]⟩
    rw [hV]; exact heap_alloc_new w _
  have HC := hide (head_any V _ w.heap.size .nilFunc Rq.nil none 0 none 0 hR)
  have HB := hide hb
  have HS := hide hs
  have HV : Hid (V = w.alloc (.cells #[.nilFunc, .string ⟨#[]⟩, .string ⟨#[]⟩, .slice none 0 0, .slice none 0 0] 82)) := hV
  clear hb hs hR hV
  go_enter Tryz.func42, Tryz.ntmps42
  go_upto_region 2 with fail
  rw [← unhide HV]
  go_wp2_with (go_at_call 72; refine (unhide HC).mono ?_; rintro e w2 ⟨rfl, hr2⟩)
  go_ret
  obtain ⟨g', tk', k1, k2, k3, k4⟩ := unhide hr2
  refine ⟨w.heap.size, g', rfl, ⟨tk', none, 0, none, 0, k1, k2 rfl⟩, fun k hk => ?_, ?_⟩
  · apply Classical.byContradiction
    intro hlt
    refine hk (k4 k (by have := unhide HS; omega) ?_)
    rw [tagN_old _ _ _ _ (by omega)]
  · refine Kp.below (unhide HB) k3 (unhide HB).size (fun j hj => ?_)
    apply Classical.byContradiction
    intro hlt
    refine hj ?_
    rw [tagN_old _ _ _ _ (by omega)]
#print axioms newReader_any

/-- The bytes that are taken so far. -/
structure RuI (R : HdM) (E : World → Prop) (B : Nat) (w wr : World) (g : Nat → Nat) (r : Nat) (S : St) (Q : Rq) (l : List UInt8) (k : Nat) (g' : Nat → Nat) (S' : St) (Q' : Rq) : Prop where
  rd : Rd wr g' r S' Q'
  ok : okQ S' Q'
  env : E wr
  kp : Kp w wr (fun k => g k ≠ 0)
  old : ∀ k, k < w.heap.size → g k = 0 → g' k = 0
  low : ∀ k, g' k ≠ 0 → B ≤ k
  eq : runM R S Q l = ((runM R S' Q' (l.drop k)).1 + k, (runM R S' Q' (l.drop k)).2)
theorem RuI.next {R : HdM} {E : World → Prop} {B : Nat} {w wr w' : World} {g : Nat → Nat} {r : Nat} {S : St} {Q : Rq} {l : List UInt8} {k : Nat} {g' : Nat → Nat} {S' : St} {Q' : Rq} (h : RuI R E B w wr g r S Q l k g' S' Q') (hR : Rok R) (hEK : EK E B) (hB : B ≤ w.heap.size) (c : UInt8) (hc : l[k]? = some c)
    (h1 : (stepM R S' Q' c).1 = 1) (ht : Rtx wr g' r (stepM R S' Q' c) w') : ∃ g2, RuI R E B w w' g r S Q l (k + 1) g2 (stepM R S' Q' c).2.1 (stepM R S' Q' c).2.2 := by
  obtain ⟨g2, tk2, p1, p2, p3, p4, k1, k2, k3, k4⟩ := ht
  have hkl := (List.getElem?_eq_some_iff.1 hc).1
  refine ⟨g2, ⟨tk2, p1, p2, p3, p4, k1, k2 h1⟩, okQ_step R hR _ _ c h.ok h1, hEK.kp h.env (Nat.le_trans hB h.kp.size) h.low k3, h.kp.trans' k3 (fun i hi hs hz => hs (h.old i hi hz)), fun i hi hz => k4 i (Nat.lt_of_lt_of_le hi h.kp.size) (h.old i hi hz), fun i hi => ?_, ?_⟩
  · by_cases hl : i < wr.heap.size
    · exact h.low i (fun e => hi (k4 i hl e))
    · have := h.kp.size; omega
  · have e := h.eq
    have hd : l.drop k = c :: l.drop (k + 1) := by
      rw [List.drop_eq_getElem_cons hkl]
      congr 1
      have := List.getElem?_eq_getElem hkl
      rw [this] at hc; exact Option.some.inj hc
    rw [hd, runM_one R S' Q' c _ h1] at e
    rw [e, Nat.add_assoc, Nat.add_comm 1 k]
theorem RuI.last {R : HdM} {E : World → Prop} {B : Nat} {w wr w' : World} {g : Nat → Nat} {r : Nat} {S : St} {Q : Rq} {l : List UInt8} {k : Nat} {g' : Nat → Nat} {S' : St} {Q' : Rq} (h : RuI R E B w wr g r S Q l k g' S' Q') (c : UInt8) (hc : l[k]? = some c)
    (h1 : (stepM R S' Q' c).1 ≠ 1) (ht : Rtx wr g' r (stepM R S' Q' c) w') : runM R S Q l = (k + 1, stepM R S' Q' c) ∧ Rtx w g r (stepM R S' Q' c) w' := by
  have hkl := (List.getElem?_eq_some_iff.1 hc).1
  constructor
  · have e := h.eq
    have hd : l.drop k = c :: l.drop (k + 1) := by
      rw [List.drop_eq_getElem_cons hkl]
      congr 1
      have := List.getElem?_eq_getElem hkl
      rw [this] at hc; exact Option.some.inj hc
    rw [hd, runM_end R S' Q' c _ h1] at e
    rw [e, Nat.add_comm 1 k]
  · have := Ret.behind h.kp h.old (show Ret wr g' r (stepM R S' Q' c) _ w' from ⟨rfl, ht⟩)
    exact this.2
theorem RuI.more {R : HdM} {E : World → Prop} {B : Nat} {w wr : World} {g : Nat → Nat} {r : Nat} {S : St} {Q : Rq} {l : List UInt8} {g' : Nat → Nat} {S' : St} {Q' : Rq} (h : RuI R E B w wr g r S Q l l.length g' S' Q') : runM R S Q l = (l.length, 1, S', Q') ∧ Rtx w g r (1, S', Q') wr := by
  constructor
  · have e := h.eq
    rw [List.drop_length] at e
    rw [e]
    simp [runM]
  · obtain ⟨tk, p1, p2, p3, p4, k1, k2⟩ := h.rd
    exact ⟨g', tk, p1, p2, p3, p4, k1, fun _ => k2, h.kp, h.old⟩

set_option maxHeartbeats 8000000 in
theorem run_any (E : World → Prop) (B : Nat) (hEK : EK E B) (R : HdM) (hR : RHs E R) (hok : Rok R) (w : World) (g : Nat → Nat) (r : Nat) (S : St) (Q : Rq) (x : Option Addr) (cx : Nat) (l : List UInt8) (hr : Rd w g r S Q) (hq : okQ S Q) (hE : E w) (hB : B ≤ w.heap.size) (hgB : ∀ k, g k ≠ 0 → B ≤ k) (hx : Bs w x cx l) (hxg : l ≠ [] → ∀ k, blk x = some k → g k = 0) (hl : l.length ≤ 281474976710656) :
    Calls Tryz.prog 44 #[pt r, .slice x l.length cx] w fun e w' => e = .returned (.tuple #[.int .i64 ((runM R S Q l).1 : Int), .int .i64 ((runM R S Q l).2.1 : Int)]) ∧ Hid (Rtx w g r (runM R S Q l).2 w') := by
  have HI0 : Hid (RuI R E B w w g r S Q l 0 g S Q) := ⟨hr, hq, hE, Kp.of (Below.refl _ _), fun _ _ h => h, hgB, by simp⟩
  have HX := hide hx
  have HXG := hide hxg
  have HEK := hide hEK
  have HRR := hide (show RHs E R ∧ Rok R from ⟨hR, hok⟩)
  clear hr hq hE hgB hx hxg hEK hR hok
  go_enter Tryz.func44, Tryz.ntmps44
  go_wp2
  go_loopw [11] (fun i wr => ∃ k : Nat, k ≤ l.length ∧ i = .int .i64 (k : Int) ∧ ∃ g' S' Q', Hid (RuI R E B w wr g r S Q l k g' S' Q')) (fun i _ => l.length - (intOf i).toNat)
  case atStart => exact ⟨0, Nat.zero_le _, rfl, g, S, Q, HI0⟩
  case round =>
    clear HI0
    obtain ⟨k, hk, rfl, g', S', Q', HI⟩ := hrel
    by_cases hlt : k < l.length
    · have hlt' : (k : Int) < (l.length : Int) := by omega
      obtain ⟨c, hc⟩ : ∃ c, l[k]? = some c := ⟨_, List.getElem?_eq_getElem hlt⟩
      have hxr : Bs wr x cx l := (unhide HI).kp.bs (unhide HX) (fun j hj => by rw [unhide HXG (fun e => by subst e; simp at *) j hj]; simp)
      obtain ⟨bb, off, hxe, hcell⟩ := hxr.row (by intro e; subst e; simp at hlt)
      have hck := hcell k hlt
      rw [show l.getD k 0 = c by rw [List.getD_eq_getElem?_getD, hc]; rfl] at hck
      subst hxe
      clear hcell hxr
      obtain ⟨tk, hp, hcc, bp, bc, hrd, hst⟩ := (unhide HI).rd
      have c0 : wr.cell? ⟨r, 0, none⟩ = some tk := by rw [cell_of_row wr r 0 _ _ _ hrd.row]; rfl
      have HC : Hid (l[k]? = some c) := hc
      have hqq := (unhide HI).ok
      have hEw := (unhide HI).env
      have hBw : B ≤ wr.heap.size := Nat.le_trans hB (unhide HI).kp.size
      have hlow := (unhide HI).low
      cases S' with
      | head h0 =>
        obtain ⟨a, b, y, cy, rfl, q1, q2, q3, q4, q5, q6, q7⟩ := hst
        have HT := hide (take_head E B (unhide HEK) R (unhide HRR).1 (unhide HRR).2 wr g' r _ h0 Q' hp hcc bp bc c a b y cy hrd q1 q2 q3 q4 q5 q6 q7 hEw hBw hlow rfl)
        obtain ⟨X, hX⟩ : ∃ X, stepM R (.head h0) Q' c = X := ⟨_, rfl⟩
        by_cases h1 : X.1 = 1
        · have HN : Hid (∀ w', Rtx wr g' r X w' → ∃ g2, RuI R E B w w' g r S Q l (k + 1) g2 X.2.1 X.2.2) := fun w' ht => by
            rw [← hX] at h1 ht ⊢
            exact (unhide HI).next (unhide HRR).2 (unhide HEK) hB c (unhide HC) h1 ht
          have HT1 : Hid (Calls Tryz.prog 97 _ wr fun e w' => e = .returned (.int .i64 1) ∧ Hid (Rtx wr g' r X w')) := (unhide HT).mono (fun e w' hh => by rw [hX] at hh; exact ⟨by rw [hh.1, h1]; rfl, hh.2⟩)
          clear HT h1 hX hrd hqq hEw hBw hlow q1 q2 q3 q4 q5 q6 q7 hc
          go_wp2_with (go_at_call 97; refine (unhide HT1).mono ?_; rintro e w2 ⟨rfl, hr2⟩)
          obtain ⟨g2, hg2⟩ := unhide HN _ (unhide hr2)
          go_roundw
          case rel => exact ⟨k + 1, by omega, by go_num, g2, _, _, hg2⟩
          case measure => simp [intOf]; omega
        · have HN : Hid (∀ w', Rtx wr g' r X w' → runM R S Q l = (k + 1, X) ∧ Rtx w g r X w') := fun w' ht => by
            rw [← hX] at h1 ht ⊢
            exact (unhide HI).last c (unhide HC) h1 ht
          obtain ⟨st, hst2⟩ : ∃ st, X.1 = st := ⟨_, rfl⟩
          have hne : ((st : Int) != 1) = true := by simp; omega
          have HT1 : Hid (Calls Tryz.prog 97 _ wr fun e w' => e = .returned (.int .i64 (st : Int)) ∧ Hid (Rtx wr g' r X w')) := (unhide HT).mono (fun e w' hh => by rw [hX] at hh; exact ⟨by rw [hh.1, hst2], hh.2⟩)
          have HST := hide hst2
          clear HT h1 hX hrd hqq hEw hBw hlow q1 q2 q3 q4 q5 q6 q7 hc hst2
          go_wp2_with (go_at_call 97; refine (unhide HT1).mono ?_; rintro e w2 ⟨rfl, hr2⟩)
          go_ret2
          obtain ⟨e1, e2⟩ := unhide HN _ (unhide hr2)
          refine ⟨?_, ?_⟩
          · rw [e1]; show Ending.returned (.tuple #[.int .i64 ((k : Int) + 1), .int .i64 (st : Int)]) = Ending.returned (.tuple #[.int .i64 ((k + 1 : Nat) : Int), .int .i64 (X.1 : Int)]); rw [unhide HST]; rfl
          · rw [e1]; exact e2
      | bytes n t =>
        obtain ⟨a, b, d, tv, rfl, q1, q2, q3, q4, q5, q6, q7, q8, q9⟩ := hst
        have HT := hide (take_bytes R wr g' r _ n t Q' hp hcc bp bc c a b d tv hrd q1 q2 q3 q4 q5 q6 q7 q8 q9 hqq.2 rfl)
        obtain ⟨X, hX⟩ : ∃ X, stepM R (.bytes n t) Q' c = X := ⟨_, rfl⟩
        by_cases h1 : X.1 = 1
        · have HN : Hid (∀ w', Rtx wr g' r X w' → ∃ g2, RuI R E B w w' g r S Q l (k + 1) g2 X.2.1 X.2.2) := fun w' ht => by
            rw [← hX] at h1 ht ⊢
            exact (unhide HI).next (unhide HRR).2 (unhide HEK) hB c (unhide HC) h1 ht
          have HT1 : Hid (Calls Tryz.prog 150 _ wr fun e w' => e = .returned (.int .i64 1) ∧ Hid (Rtx wr g' r X w')) := (unhide HT).mono (fun e w' hh => by rw [hX] at hh; exact ⟨by rw [hh.1, h1]; rfl, hh.2⟩)
          clear HT h1 hX hrd hqq hEw hBw hlow q1 q2 q3 q4 q5 q6 q7 q8 q9 hc
          go_wp2_with (go_at_call 150; refine (unhide HT1).mono ?_; rintro e w2 ⟨rfl, hr2⟩)
          obtain ⟨g2, hg2⟩ := unhide HN _ (unhide hr2)
          go_roundw
          case rel => exact ⟨k + 1, by omega, by go_num, g2, _, _, hg2⟩
          case measure => simp [intOf]; omega
        · have HN : Hid (∀ w', Rtx wr g' r X w' → runM R S Q l = (k + 1, X) ∧ Rtx w g r X w') := fun w' ht => by
            rw [← hX] at h1 ht ⊢
            exact (unhide HI).last c (unhide HC) h1 ht
          obtain ⟨st, hst2⟩ : ∃ st, X.1 = st := ⟨_, rfl⟩
          have hne : ((st : Int) != 1) = true := by simp; omega
          have HT1 : Hid (Calls Tryz.prog 150 _ wr fun e w' => e = .returned (.int .i64 (st : Int)) ∧ Hid (Rtx wr g' r X w')) := (unhide HT).mono (fun e w' hh => by rw [hX] at hh; exact ⟨by rw [hh.1, hst2], hh.2⟩)
          have HST := hide hst2
          clear HT h1 hX hrd hqq hEw hBw hlow q1 q2 q3 q4 q5 q6 q7 q8 q9 hc hst2
          go_wp2_with (go_at_call 150; refine (unhide HT1).mono ?_; rintro e w2 ⟨rfl, hr2⟩)
          go_ret2
          obtain ⟨e1, e2⟩ := unhide HN _ (unhide hr2)
          refine ⟨?_, ?_⟩
          · rw [e1]; show Ending.returned (.tuple #[.int .i64 ((k : Int) + 1), .int .i64 (st : Int)]) = Ending.returned (.tuple #[.int .i64 ((k + 1 : Nat) : Int), .int .i64 (X.1 : Int)]); rw [unhide HST]; rfl
          · rw [e1]; exact e2
      | text u i t =>
        obtain ⟨a, b, d, tv, rfl, q1, q2, q3, q4, q5, q6, q7, q8, q9⟩ := hst
        have HT := hide (take_text R wr g' r _ u i t Q' hp hcc bp bc c a b d tv hrd q1 q2 q3 q4 q5 q6 q7 q8 q9 hqq rfl)
        obtain ⟨X, hX⟩ : ∃ X, stepM R (.text u i t) Q' c = X := ⟨_, rfl⟩
        by_cases h1 : X.1 = 1
        · have HN : Hid (∀ w', Rtx wr g' r X w' → ∃ g2, RuI R E B w w' g r S Q l (k + 1) g2 X.2.1 X.2.2) := fun w' ht => by
            rw [← hX] at h1 ht ⊢
            exact (unhide HI).next (unhide HRR).2 (unhide HEK) hB c (unhide HC) h1 ht
          have HT1 : Hid (Calls Tryz.prog 170 _ wr fun e w' => e = .returned (.int .i64 1) ∧ Hid (Rtx wr g' r X w')) := (unhide HT).mono (fun e w' hh => by rw [hX] at hh; exact ⟨by rw [hh.1, h1]; rfl, hh.2⟩)
          clear HT h1 hX hrd hqq hEw hBw hlow q1 q2 q3 q4 q5 q6 q7 q8 q9 hc
          go_wp2_with (go_at_call 170; refine (unhide HT1).mono ?_; rintro e w2 ⟨rfl, hr2⟩)
          obtain ⟨g2, hg2⟩ := unhide HN _ (unhide hr2)
          go_roundw
          case rel => exact ⟨k + 1, by omega, by go_num, g2, _, _, hg2⟩
          case measure => simp [intOf]; omega
        · have HN : Hid (∀ w', Rtx wr g' r X w' → runM R S Q l = (k + 1, X) ∧ Rtx w g r X w') := fun w' ht => by
            rw [← hX] at h1 ht ⊢
            exact (unhide HI).last c (unhide HC) h1 ht
          obtain ⟨st, hst2⟩ : ∃ st, X.1 = st := ⟨_, rfl⟩
          have hne : ((st : Int) != 1) = true := by simp; omega
          have HT1 : Hid (Calls Tryz.prog 170 _ wr fun e w' => e = .returned (.int .i64 (st : Int)) ∧ Hid (Rtx wr g' r X w')) := (unhide HT).mono (fun e w' hh => by rw [hX] at hh; exact ⟨by rw [hh.1, hst2], hh.2⟩)
          have HST := hide hst2
          clear HT h1 hX hrd hqq hEw hBw hlow q1 q2 q3 q4 q5 q6 q7 q8 q9 hc hst2
          go_wp2_with (go_at_call 170; refine (unhide HT1).mono ?_; rintro e w2 ⟨rfl, hr2⟩)
          go_ret2
          obtain ⟨e1, e2⟩ := unhide HN _ (unhide hr2)
          refine ⟨?_, ?_⟩
          · rw [e1]; show Ending.returned (.tuple #[.int .i64 ((k : Int) + 1), .int .i64 (st : Int)]) = Ending.returned (.tuple #[.int .i64 ((k + 1 : Nat) : Int), .int .i64 (X.1 : Int)]); rw [unhide HST]; rfl
          · rw [e1]; exact e2
      | chunk n d =>
        obtain ⟨a, b, e, rfl, q1, q2, q3, q4, q5, q6, q7, q8⟩ := hst
        have HT := hide (take_chunk R wr g' r _ n d Q' hp hcc bp bc c a b e hrd q1 q2 q3 q4 q5 q6 q7 q8 rfl)
        obtain ⟨X, hX⟩ : ∃ X, stepM R (.chunk n d) Q' c = X := ⟨_, rfl⟩
        by_cases h1 : X.1 = 1
        · have HN : Hid (∀ w', Rtx wr g' r X w' → ∃ g2, RuI R E B w w' g r S Q l (k + 1) g2 X.2.1 X.2.2) := fun w' ht => by
            rw [← hX] at h1 ht ⊢
            exact (unhide HI).next (unhide HRR).2 (unhide HEK) hB c (unhide HC) h1 ht
          have HT1 : Hid (Calls Tryz.prog 145 _ wr fun e w' => e = .returned (.int .i64 1) ∧ Hid (Rtx wr g' r X w')) := (unhide HT).mono (fun e w' hh => by rw [hX] at hh; exact ⟨by rw [hh.1, h1]; rfl, hh.2⟩)
          clear HT h1 hX hrd hqq hEw hBw hlow q1 q2 q3 q4 q5 q6 q7 q8 hc
          go_wp2_with (go_at_call 145; refine (unhide HT1).mono ?_; rintro e w2 ⟨rfl, hr2⟩)
          obtain ⟨g2, hg2⟩ := unhide HN _ (unhide hr2)
          go_roundw
          case rel => exact ⟨k + 1, by omega, by go_num, g2, _, _, hg2⟩
          case measure => simp [intOf]; omega
        · have HN : Hid (∀ w', Rtx wr g' r X w' → runM R S Q l = (k + 1, X) ∧ Rtx w g r X w') := fun w' ht => by
            rw [← hX] at h1 ht ⊢
            exact (unhide HI).last c (unhide HC) h1 ht
          obtain ⟨st, hst2⟩ : ∃ st, X.1 = st := ⟨_, rfl⟩
          have hne : ((st : Int) != 1) = true := by simp; omega
          have HT1 : Hid (Calls Tryz.prog 145 _ wr fun e w' => e = .returned (.int .i64 (st : Int)) ∧ Hid (Rtx wr g' r X w')) := (unhide HT).mono (fun e w' hh => by rw [hX] at hh; exact ⟨by rw [hh.1, hst2], hh.2⟩)
          have HST := hide hst2
          clear HT h1 hX hrd hqq hEw hBw hlow q1 q2 q3 q4 q5 q6 q7 q8 hc hst2
          go_wp2_with (go_at_call 145; refine (unhide HT1).mono ?_; rintro e w2 ⟨rfl, hr2⟩)
          go_ret2
          obtain ⟨e1, e2⟩ := unhide HN _ (unhide hr2)
          refine ⟨?_, ?_⟩
          · rw [e1]; show Ending.returned (.tuple #[.int .i64 ((k : Int) + 1), .int .i64 (st : Int)]) = Ending.returned (.tuple #[.int .i64 ((k + 1 : Nat) : Int), .int .i64 (X.1 : Int)]); rw [unhide HST]; rfl
          · rw [e1]; exact e2
    · have hlt' : ¬ (k : Int) < (l.length : Int) := by omega
      obtain rfl : k = l.length := by omega
      have HM := hide ((unhide HI).more)
      clear hlt
      go_wp2
      go_ret2
      obtain ⟨e1, e2⟩ := unhide HM
      exact ⟨by rw [e1]; rfl, by rw [e1]; exact e2⟩
#print axioms run_any
end Go.Proofs.YtonaekkenggmbaaGreatDoor
end
section
set_option linter.unusedVariables false
set_option maxRecDepth 1000000
namespace Go.Proofs.YtonaekkenggmbaaGreatDoor
open Go.RowKit

theorem OwnB.rebase {w : World} {b0 base : Nat} {a : Option Addr} {cap : Nat} {l : List UInt8} (h : OwnB w b0 a cap l) (hb : ∀ k, blk a = Option.some k → base ≤ k) : OwnB w base a cap l := by
  refine ⟨h.1, ?_⟩
  rcases h.2 with hn | ⟨g, cap', cur, hv, hbb, rest⟩
  · exact .inl hn
  · refine .inr ⟨g, cap', cur, hv, hb g ?_, rest⟩
    simp only [Value.slice.injEq] at hv
    rw [hv.1]; rfl
/-- A request that was read, in memory of its own. -/
structure RqO (w : World) (base : Nat) (Q : Rq) (hp : Option Addr) (hc : Nat) (bp : Option Addr) (bc : Nat) : Prop where
  hdr : HdR w hp Q.h
  own : OwnB w base bp bc Q.b
  hb : ∀ k, blk hp = some k → base ≤ k
theorem parse_get (R : HdM) (E : World → Prop) (B : Nat) (l : List UInt8) {w w' : World} {g : Nat → Nat} {r : Nat} {Q : Rq} {n : Nat} {S : St} (base : Nat) (h : Rtx w g r (n, S, Q) w') (hg : ∀ k, g k ≠ 0 → base ≤ k) (hbs : base ≤ w.heap.size) :
    ∃ tk hp hc bp bc, w'.heap[r]? = some (.cells #[tk, .string (str Q.m), .string (str Q.p), .slice hp Q.h.length hc, .slice bp Q.b.length bc] 82 (0, 0)) ∧ RqO w' base Q hp hc bp bc := by
  obtain ⟨g', tk, hp, hc, bp, bc, k1, k2, k3, k4⟩ := h
  have low : ∀ k, g' k ≠ 0 → base ≤ k := fun k hk => by
    by_cases hl : k < w.heap.size
    · exact hg k (fun e => hk (k4 k hl e))
    · omega
  refine ⟨tk, hp, hc, bp, bc, k1.row, k1.hdr, k1.body.rebase (fun k hk => low k (by rw [k1.bt k hk]; decide)), fun k hk => low k (by rw [k1.ht k hk]; decide)⟩
theorem RqO.below {w w' : World} {base : Nat} {Q : Rq} {hp : Option Addr} {hc : Nat} {bp : Option Addr} {bc : Nat} (h : RqO w base Q hp hc bp bc) (hb : Below w.heap.size w w') : RqO w' base Q hp hc bp bc := ⟨h.hdr.below hb (Nat.le_refl _), h.own.below hb (Nat.le_refl _), h.hb⟩

set_option maxHeartbeats 4000000 in
theorem parse_any (E : World → Prop) (B : Nat) (hEK : EK E B) (R : HdM) (hR : RHs E R) (hok : Rok R) (w : World) (x : Option Addr) (cx : Nat) (l : List UInt8) (hE : E w) (hB : B ≤ w.heap.size) (hx : Bs w x cx l) (hl : l.length ≤ 281474976710656) :
    Calls Tryz.prog 41 #[.slice x l.length cx] w fun e w' => ∃ hp hc bp bc, e = .returned (.tuple #[.agg #[.string (str (parseM R l).1.m), .string (str (parseM R l).1.p), .slice hp (parseM R l).1.h.length hc, .slice bp (parseM R l).1.b.length bc], .int .i64 ((parseM R l).2.1 : Int), .int .i64 ((parseM R l).2.2 : Int)]) ∧ Hid (RqO w' w.heap.size (parseM R l).1 hp hc bp bc) ∧ Hid (Below w.heap.size w w') := by
  obtain ⟨V, hV⟩ : ∃ V, V = w.alloc (.cells #[.string ⟨#[]⟩, .string ⟨#[]⟩, .slice none 0 0, .slice none 0 0] 39) := ⟨_, rfl⟩
  have hbV : Below w.heap.size w V := by rw [hV]; exact (Below.refl _ _).alloc (Nat.le_refl _) _
  have hsV : V.heap.size = w.heap.size + 1 := by rw [hV]; simp
  have hrV : V.heap[w.heap.size]? = some (.cells #[.string ⟨#[]⟩, .string ⟨#[]⟩, .slice none 0 0, .slice none 0 0] 39 (0, 0)) := by rw [hV]; exact heap_alloc_new w _
  have HRV := hide hrV
  have HBV := hide hbV
  have HSV := hide hsV
  have HX := hide (hx.below hbV (Nat.le_refl _))
  have hxl : l ≠ [] → ∀ k, blk x = some k → k < w.heap.size := fun hne k hk => by
    obtain ⟨b, off, rfl, hc⟩ := hx.row hne
    have := World.block_lt_of_cell? w _ (hc 0 (List.length_pos_iff.2 hne))
    simp [blk] at hk
    simp only at this
    omega
  have HXL := hide hxl
  have HE := hide (hEK.below hE hB hbV)
  have HEK := hide hEK
  have HRR := hide (show RHs E R ∧ Rok R from ⟨hR, hok⟩)
  obtain ⟨y, hy⟩ : ∃ y, runM R (.head []) Rq.nil l = y := ⟨_, rfl⟩
  have HP : Hid (parseM R l = if y.2.1 = 0 then (y.2.2.2, y.1, 0) else (Rq.nil, 0, y.2.1)) := by show _ = _; unfold parseM; rw [hy]
  have HY := hide hy
  generalize parseM R l = P at HP ⊢
  clear hrV hbV hsV hx hE hEK hR hok hxl hy
  go_enter Tryz.func41, Tryz.ntmps41
  go_upto_region 1 with fail
  rw [← hV]
  clear hV
  go_upto_region 2 with (go_at_call 42; refine (newReader_any V).mono ?_; rintro e w1 ⟨r, g, rfl, HR1, HG1, HB1⟩)
  have HRUN := hide (run_any E B (unhide HEK) R (unhide HRR).1 (unhide HRR).2 w1 g r (.head []) Rq.nil x cx l (unhide HR1) (by simp [okQ, Rq.nil]) ((unhide HEK).below (unhide HE) (by have := (unhide HBV).size; omega) (unhide HB1)) (by have := (unhide HBV).size; have := (unhide HB1).size; omega) (fun k hk => by have := unhide HG1 k hk; have := (unhide HBV).size; omega) ((unhide HX).below (unhide HB1) (Nat.le_refl _)) (fun hne k hk => by
    apply Classical.byContradiction
    intro hn
    have h1 := unhide HG1 k hn
    have h2 := unhide HXL hne k hk
    have := (unhide HBV).size
    omega) hl)
  rw [unhide HY] at HRUN
  obtain ⟨n, st, S2, Q2⟩ := y
  simp only at HRUN HP
  have HS1 := hide ((unhide HB1).size)
  by_cases h0 : st = 0
  · subst h0
    have HP2 : Hid (P = (Q2, n, 0)) := by show _ = _; rw [unhide HP, if_pos rfl]
    go_upto_region 3 with (go_at_call 44; refine (unhide HRUN).mono ?_; rintro e w2 ⟨rfl, HT2⟩)
    obtain ⟨tk, hp, hc, bp, bc, hrow, hro⟩ := parse_get R E B l V.heap.size (unhide HT2) (unhide HG1) (unhide HS1)
    have hbW : Below V.heap.size V w2 := by
      obtain ⟨_, _, _, _, _, _, _, _, k3, _⟩ := unhide HT2
      exact Kp.below (unhide HB1) k3 (unhide HS1) (unhide HG1)
    have hres := (hbW.block w.heap.size (by have := unhide HSV; omega)).trans (unhide HRV)
    have a1 : w2.cell? ⟨r, 1, none⟩ = some (.string (str Q2.m)) := by rw [cell_of_row w2 r 1 _ _ _ hrow]; rfl
    have a2 : w2.cell? ⟨r, 2, none⟩ = some (.string (str Q2.p)) := by rw [cell_of_row w2 r 2 _ _ _ hrow]; rfl
    have a3 : w2.cell? ⟨r, 3, none⟩ = some (.slice hp Q2.h.length hc) := by rw [cell_of_row w2 r 3 _ _ _ hrow]; rfl
    have a4 : w2.cell? ⟨r, 4, none⟩ = some (.slice bp Q2.b.length bc) := by rw [cell_of_row w2 r 4 _ _ _ hrow]; rfl
    have r0 : w2.cell? ⟨w.heap.size, 0, none⟩ = some (.string ⟨#[]⟩) := by rw [cell_of_row w2 _ 0 _ _ _ hres]; rfl
    have r1 : w2.cell? ⟨w.heap.size, 1, none⟩ = some (.string ⟨#[]⟩) := by rw [cell_of_row w2 _ 1 _ _ _ hres]; rfl
    have r2 : w2.cell? ⟨w.heap.size, 2, none⟩ = some (.slice none 0 0) := by rw [cell_of_row w2 _ 2 _ _ _ hres]; rfl
    have r3 : w2.cell? ⟨w.heap.size, 3, none⟩ = some (.slice none 0 0) := by rw [cell_of_row w2 _ 3 _ _ _ hres]; rfl
    have z0 := frozen_of_row w2 w.heap.size 0 _ _ hres
    have z1 := frozen_of_row w2 w.heap.size 1 _ _ hres
    have z2 := frozen_of_row w2 w.heap.size 2 _ _ hres
    have z3 := frozen_of_row w2 w.heap.size 3 _ _ hres
    obtain ⟨W, hW⟩ : ∃ W, W = (((w2.setCell ⟨w.heap.size, 0, none⟩ (.string (str Q2.m))).setCell ⟨w.heap.size, 1, none⟩ (.string (str Q2.p))).setCell ⟨w.heap.size, 2, none⟩ (.slice hp Q2.h.length hc)).setCell ⟨w.heap.size, 3, none⟩ (.slice bp Q2.b.length bc) := ⟨_, rfl⟩
    have hrw : W.heap[w.heap.size]? = some (.cells #[.string (str Q2.m), .string (str Q2.p), .slice hp Q2.h.length hc, .slice bp Q2.b.length bc] 39 (0, 0)) := by
      rw [hW, heap_setCell_same _ _ 3 _ _ _ (heap_setCell_same _ _ 2 _ _ _ (heap_setCell_same _ _ 1 _ _ _ (heap_setCell_same _ _ 0 _ _ _ hres)))]; rfl
    have hne : ∀ k, k ≠ w.heap.size → W.heap[k]? = w2.heap[k]? := fun k hk => by
      rw [hW, Below.heap_setCell _ ⟨w.heap.size, 3, none⟩ _ k hk, Below.heap_setCell _ ⟨w.heap.size, 2, none⟩ _ k hk, Below.heap_setCell _ ⟨w.heap.size, 1, none⟩ _ k hk, Below.heap_setCell _ ⟨w.heap.size, 0, none⟩ _ k hk]
    have hszW : W.heap.size = w2.heap.size := by rw [hW]; simp [World.setCell]
    have HBW : Hid (Below w.heap.size w W) := by
      have hb2 : Below w.heap.size w w2 := (unhide HBV).trans (hbW.mono (unhide HBV).size)
      refine ⟨?_, ?_, ?_, by rw [hszW]; exact hb2.size, fun k hk => (hne k (by omega)).trans (hb2.block k hk)⟩
      · rw [hW]; exact hb2.os
      · rw [hW]; exact hb2.tape
      · rw [hW]; exact hb2.output
    have HRO : Hid (RqO W w.heap.size Q2 hp hc bp bc) := by
      have hsv := unhide HSV
      refine ⟨hro.hdr.same (fun k hk _ => hne k (by have := hro.hb k hk; omega)), (hro.own.same (fun k hk => hne k (by have := (hro.own.lt k hk).1; omega))).base (by omega), fun k hk => by have := hro.hb k hk; omega⟩
    have c0 : W.cell? ⟨w.heap.size, 0, none⟩ = some (.string (str Q2.m)) := by rw [cell_of_row W _ 0 _ _ _ hrw]; rfl
    have c1 : W.cell? ⟨w.heap.size, 1, none⟩ = some (.string (str Q2.p)) := by rw [cell_of_row W _ 1 _ _ _ hrw]; rfl
    have c2 : W.cell? ⟨w.heap.size, 2, none⟩ = some (.slice hp Q2.h.length hc) := by rw [cell_of_row W _ 2 _ _ _ hrw]; rfl
    have c3 : W.cell? ⟨w.heap.size, 3, none⟩ = some (.slice bp Q2.b.length bc) := by rw [cell_of_row W _ 3 _ _ _ hrw]; rfl
    clear hrow hro hbW hres hrw hne hszW HT2 HRUN HR1 HG1 HB1
    go_wp2
    rw [← hW]
    refine bodyPost_ret (v := .tuple #[.agg #[.string (str Q2.m), .string (str Q2.p), .slice hp Q2.h.length hc, .slice bp Q2.b.length bc], .int .i64 (n : Int), .int .i64 0]) (by simp [results, Tryz.results41, go_sem, c0, c1, c2, c3]) rfl ⟨hp, hc, bp, bc, ?_, ?_, HBW⟩
    · rw [unhide HP2]; rfl
    · rw [unhide HP2]; exact HRO
  · have h0' : ((st : Int) != 0) = true := by simp; omega
    have HP2 : Hid (P = (Rq.nil, 0, st)) := by show _ = _; rw [unhide HP, if_neg h0]
    clear h0
    go_upto_region 3 with (go_at_call 44; refine (unhide HRUN).mono ?_; rintro e w2 ⟨rfl, HT2⟩)
    have hbW : Below V.heap.size V w2 := by
      obtain ⟨_, _, _, _, _, _, _, _, k3, _⟩ := unhide HT2
      exact Kp.below (unhide HB1) k3 (unhide HS1) (unhide HG1)
    have hres := (hbW.block w.heap.size (by have := unhide HSV; omega)).trans (unhide HRV)
    have r0 : w2.cell? ⟨w.heap.size, 0, none⟩ = some (.string ⟨#[]⟩) := by rw [cell_of_row w2 _ 0 _ _ _ hres]; rfl
    have r1 : w2.cell? ⟨w.heap.size, 1, none⟩ = some (.string ⟨#[]⟩) := by rw [cell_of_row w2 _ 1 _ _ _ hres]; rfl
    have r2 : w2.cell? ⟨w.heap.size, 2, none⟩ = some (.slice none 0 0) := by rw [cell_of_row w2 _ 2 _ _ _ hres]; rfl
    have r3 : w2.cell? ⟨w.heap.size, 3, none⟩ = some (.slice none 0 0) := by rw [cell_of_row w2 _ 3 _ _ _ hres]; rfl
    have z0 := frozen_of_row w2 w.heap.size 0 _ _ hres
    have z1 := frozen_of_row w2 w.heap.size 1 _ _ hres
    have z2 := frozen_of_row w2 w.heap.size 2 _ _ hres
    have z3 := frozen_of_row w2 w.heap.size 3 _ _ hres
    obtain ⟨W, hW⟩ : ∃ W, W = (((w2.setCell ⟨w.heap.size, 0, none⟩ (.string ⟨#[]⟩)).setCell ⟨w.heap.size, 1, none⟩ (.string ⟨#[]⟩)).setCell ⟨w.heap.size, 2, none⟩ (.slice none 0 0)).setCell ⟨w.heap.size, 3, none⟩ (.slice none 0 0) := ⟨_, rfl⟩
    have hrw : W.heap[w.heap.size]? = some (.cells #[.string ⟨#[]⟩, .string ⟨#[]⟩, .slice none 0 0, .slice none 0 0] 39 (0, 0)) := by
      rw [hW, heap_setCell_same _ _ 3 _ _ _ (heap_setCell_same _ _ 2 _ _ _ (heap_setCell_same _ _ 1 _ _ _ (heap_setCell_same _ _ 0 _ _ _ hres)))]; rfl
    have hne : ∀ k, k ≠ w.heap.size → W.heap[k]? = w2.heap[k]? := fun k hk => by
      rw [hW, Below.heap_setCell _ ⟨w.heap.size, 3, none⟩ _ k hk, Below.heap_setCell _ ⟨w.heap.size, 2, none⟩ _ k hk, Below.heap_setCell _ ⟨w.heap.size, 1, none⟩ _ k hk, Below.heap_setCell _ ⟨w.heap.size, 0, none⟩ _ k hk]
    have hszW : W.heap.size = w2.heap.size := by rw [hW]; simp [World.setCell]
    have HBW : Hid (Below w.heap.size w W) := by
      have hb2 : Below w.heap.size w w2 := (unhide HBV).trans (hbW.mono (unhide HBV).size)
      refine ⟨?_, ?_, ?_, by rw [hszW]; exact hb2.size, fun k hk => (hne k (by omega)).trans (hb2.block k hk)⟩
      · rw [hW]; exact hb2.os
      · rw [hW]; exact hb2.tape
      · rw [hW]; exact hb2.output
    have HRO : Hid (RqO W w.heap.size Rq.nil none 0 none 0) := ⟨⟨fun h => absurd rfl h, Nat.zero_le _⟩, OwnB.nil _ _, fun k hk => (by cases hk)⟩
    have c0 : W.cell? ⟨w.heap.size, 0, none⟩ = some (.string ⟨#[]⟩) := by rw [cell_of_row W _ 0 _ _ _ hrw]; rfl
    have c1 : W.cell? ⟨w.heap.size, 1, none⟩ = some (.string ⟨#[]⟩) := by rw [cell_of_row W _ 1 _ _ _ hrw]; rfl
    have c2 : W.cell? ⟨w.heap.size, 2, none⟩ = some (.slice none 0 0) := by rw [cell_of_row W _ 2 _ _ _ hrw]; rfl
    have c3 : W.cell? ⟨w.heap.size, 3, none⟩ = some (.slice none 0 0) := by rw [cell_of_row W _ 3 _ _ _ hrw]; rfl
    clear hbW hres hrw hne hszW HT2 HRUN HR1 HG1 HB1
    go_wp2
    rw [← hW]
    refine bodyPost_ret (v := .tuple #[.agg #[.string ⟨#[]⟩, .string ⟨#[]⟩, .slice none 0 0, .slice none 0 0], .int .i64 0, .int .i64 (st : Int)]) (by simp [results, Tryz.results41, go_sem, c0, c1, c2, c3]) rfl ⟨none, 0, none, 0, ?_, ?_, HBW⟩
    · rw [unhide HP2]; rfl
    · rw [unhide HP2]; exact HRO
#print axioms parse_any
end Go.Proofs.YtonaekkenggmbaaGreatDoor
end
