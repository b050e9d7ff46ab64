/-
  httpd's reader: a byte of a head is taken.
-/
import Derived.Test.YthkadboeokgjnacGreatDoorHtW
import Derived.Lib.SlBytesConst
set_option linter.unusedVariables false
set_option maxRecDepth 1000000
namespace Go.Proofs.YthkadboeokgjnacGreatDoor
open Go.RowKit

/-- What is asked of the world stays, if the first blocks do. -/
def EK (E : World → Prop) (B : Nat) : Prop := ∀ w w' : World, E w → B ≤ w.heap.size → (∀ k, k < B → w'.heap[k]? = w.heap[k]?) → E w'
theorem EK.kp {E : World → Prop} {B : Nat} (h : EK E B) {w w' : World} {g : Nat → Nat} (hE : E w) (hB : B ≤ w.heap.size) (hg : ∀ k, g k ≠ 0 → B ≤ k) (hk : Kp w w' (fun k => g k ≠ 0)) : E w' :=
  h w w' hE hB (fun k hk2 => hk.block k (by omega) (fun e => by have := hg k e; omega))
theorem EK.below {E : World → Prop} {B : Nat} (h : EK E B) {w w' : World} (hE : E w) (hB : B ≤ w.heap.size) (hb : Below w.heap.size w w') : E w' := h w w' hE hB (fun k hk => hb.block k (by omega))

/-- What a byte more of a head leaves. -/
structure HdP (w V : World) (g g' : Nat → Nat) (r a b : Nat) (tk : Value) (Q : Rq) (hp : Option Addr) (hc : Nat) (bp : Option Addr) (bc : Nat) (x : Option Addr) (cx : Nat) (l : List UInt8) : Prop where
  rd : RdB V g' r tk Q hp hc bp bc
  kp : Kp w V (fun k => g k ≠ 0)
  old : ∀ k, k < w.heap.size → g' k = g k
  bx : Bx V a (.slice x l.length cx)
  own : OwnB V 0 x cx l
  tags : ∀ k, blk x = some k → g' k = 3
  rb : Bx V b (pt r)
theorem head_app {w w2 w3 : World} {g : Nat → Nat} {r a b : Nat} {tk : Value} {Q : Rq} {hp : Option Addr} {hc : Nat} {bp : Option Addr} {bc : Nat} {x x' : Option Addr} {cx cx' : Nat} {l l' : List UInt8} (h : RdB w g r tk Q hp hc bp bc) (hb : Below w.heap.size w w2)
    (ha : Bx w a (.slice x l.length cx)) (ga : g a = 2) (hx : ∀ k, blk x = some k → g k = 3) (hrb : Bx w b (pt r)) (gb : g b = 6)
    (ho : OwnB w3 0 x' cx' l') (hg : w2.grownBy w3 (blk x)) (hloc : x' = x ∨ ∀ k, blk x' = some k → w2.heap.size ≤ k) :
    ∃ g', HdP w (w3.setCell ⟨a, 0, none⟩ (.slice x' l'.length cx')) g g' r a b tk Q hp hc bp bc x' cx' l' := by
  have hr := h.lt
  have hal := ha.lt
  have hbs := hb.size
  have hgs := hg.size
  have same3 : ∀ k, k < w.heap.size → g k ≠ 3 → w3.heap[k]? = w.heap[k]? := fun k hk hn => (hg.block k (by omega) (fun e => hn (hx k e.symm))).trans (hb.block k hk)
  have ne : ∀ k, k ≠ a → (w3.setCell ⟨a, 0, none⟩ (.slice x' l'.length cx')).heap[k]? = w3.heap[k]? := fun k hk => Below.heap_setCell w3 ⟨a, 0, none⟩ _ k hk
  have hbp' : ∀ k, blk x' = some k → blk x = some k ∨ w.heap.size ≤ k := by
    intro k hk
    rcases hloc with e | e
    · left; rw [← e]; exact hk
    · right; have := e k hk; omega
  have tg : ∀ k, g k ≠ 0 → k < w.heap.size := h.inb
  refine ⟨fun k => if k < w.heap.size then g k else if blk x' = some k then 3 else 0, ?_, ?_, ?_, ?_, ?_, ?_, ?_⟩
  · refine h.same (fun k hk => ?_) (fun k hk => ?_)
    · simp only [World.setCell, Array.size_modify]
      by_cases h1 : k < w.heap.size
      · omega
      · simp only [if_neg h1] at hk
        by_cases h2 : blk x' = some k
        · exact (ho.lt k h2).2
        · simp [h2] at hk
    · have hk0 := tg k (by rcases hk with e | e | e <;> omega)
      refine ⟨(ne k (by rintro rfl; omega)).trans (same3 k hk0 (by omega)), by simp only [if_pos hk0]⟩
  · have k1 : Kp w w2 (fun k => g k ≠ 0) := Kp.of hb
    have k2 : Kp w2 w3 (fun k => g k ≠ 0) := Kp.ofG hg (fun k hk => by rw [hx k hk]; decide)
    exact (k1.trans k2).trans (Kp.ofG (gsc w3 ⟨a, 0, none⟩ _) (fun k hk => by cases hk; rw [ga]; decide))
  · intro k hk
    simp only [if_pos hk]
  · have h3 : Bx w3 a (.slice x l.length cx) := ha.of (same3 a hal (by omega))
    exact h3.set _
  · refine ho.same (fun k hk => ne k ?_)
    rintro rfl
    rcases hbp' k hk with h2 | h2
    · have := hx k h2; omega
    · omega
  · intro k hk
    by_cases h1 : k < w.heap.size
    · simp only [if_pos h1]
      rcases hbp' k hk with h2 | h2
      · exact hx k h2
      · omega
    · simp only [if_neg h1, if_pos hk]
  · exact hrb.of ((ne b (by rintro rfl; omega)).trans (same3 b hrb.lt (by omega)))
#print axioms head_app
theorem HdP.behind {w V V' : World} {g g' : Nat → Nat} {r a b : Nat} {tk : Value} {Q : Rq} {hp : Option Addr} {hc : Nat} {bp : Option Addr} {bc : Nat} {x : Option Addr} {cx : Nat} {l : List UInt8} (h : HdP w V g g' r a b tk Q hp hc bp bc x cx l) (hb : Below V.heap.size V V') : HdP w V' g g' r a b tk Q hp hc bp bc x cx l := by
  refine ⟨h.rd.below hb, h.kp.trans (Kp.of hb), h.old, h.bx.of (hb.block a h.bx.lt), h.own.below hb (Nat.le_refl _), h.tags, h.rb.of (hb.block b h.rb.lt)⟩
theorem row_lit' (w : World) (c : UInt8) (V : World) (h : V = w.alloc (.cells #[.int .u8 (c.toNat : Int)] 5)) : Row V (some ⟨w.heap.size, 0, none⟩) [c] := by rw [h]; exact row_lit w _ c rfl
theorem bs4 (w : World) : Bs (w.alloc (.cells #[.int .u8 13, .int .u8 10, .int .u8 13, .int .u8 10] 5 (4, 5))) (some ⟨w.heap.size, 0, none⟩) 4 hend := by
  refine ⟨fun _ => ⟨w.heap.size, 0, rfl, fun i hi => ?_⟩, by decide, by unfold maxLen; decide, fun h => by cases h⟩
  rw [cell_of_row _ _ _ _ _ _ (heap_alloc_new w _)]
  match i, hi with
  | 0, _ => rfl
  | 1, _ => rfl
  | 2, _ => rfl
  | 3, _ => rfl
set_option maxHeartbeats 8000000 in
theorem take_head (E : World → Prop) (B : Nat) (hEK : EK E B) (R : HdM) (hR : RHs E R) (hok : Rok R) (w : World) (g : Nat → Nat) (r : Nat) (tk : Value) (h : List UInt8) (Q : Rq) (hp : Option Addr) (hc : Nat) (bp : Option Addr) (bc : Nat) (c : UInt8) (a b : Nat) (x : Option Addr) (cx : Nat)
    (h0 : RdB w g r tk Q hp hc bp bc) (h1 : Bx w a (.slice x h.length cx)) (g1 : g a = 2) (h2 : OwnB w 0 x cx h) (g2 : ∀ k, blk x = some k → g k = 3) (h3 : Bx w b (pt r)) (g3 : g b = 6) (hl : h.length < 8196) (hE : E w) (hB : B ≤ w.heap.size) (hgB : ∀ k, g k ≠ 0 → B ≤ k)
    (htk : tk = .func (.func 19) #[] #[pt a, pt b]) :
    Calls Tryz.prog 19 #[.int .u8 (c.toNat : Int), pt a, pt b] w fun e w' => Ret w g r (stepM R (.head h) Q c) e w' := by
  have c1 := h1.cell
  have hal := h1.lt
  have hbl := h3.lt
  obtain ⟨W2, hW2⟩ : ∃ W2, W2 = (w.alloc (.cells #[.int .u8 (c.toNat : Int)] 5)) := ⟨_, rfl⟩
  have hB2 : Below w.heap.size w W2 := by rw [hW2]; exact ((Below.refl _ _).alloc (Nat.le_refl _) _)
  have hO2 : OwnB W2 0 x cx h := h2.below hB2 (Nat.le_refl _)
  have hR2 : Row W2 (some ⟨w.heap.size, 0, none⟩) [c] := row_lit' w c W2 hW2
  have hAP : ∀ (x' : Option Addr) (cx' : Nat) (l : List UInt8) (w3 : World), OwnB w3 0 x' cx' l → W2.grownBy w3 (blk x) → (x' = x ∨ ∀ k, blk x' = some k → W2.heap.size ≤ k) → ∃ g', HdP w (w3.setCell ⟨a, 0, none⟩ (.slice x' l.length cx')) g g' r a b tk Q hp hc bp bc x' cx' l :=
    fun x' cx' l w3 e2 e3 e4 => head_app h0 hB2 h1 g1 g2 h3 g3 e2 e3 e4
  have hST : ∀ (w3 : World), W2.grownBy w3 (blk x) → w3.cell? ⟨a, 0, none⟩ = some (.slice x h.length cx) ∧ w3.frozen? ⟨a, 0, none⟩ = false := by
    intro w3 hg
    have sa := h1.of ((hg.block a (by have := hB2.size; omega) (fun e => by have := g2 a e.symm; omega)).trans (hB2.block a hal))
    exact ⟨sa.cell, sa.fz⟩
  have HO2 := hide hO2
  have HR2 := hide hR2
  have HAP := hide hAP
  have HST := hide hST
  have HE := hide hE
  have HEK := hide hEK
  have HRR := hide (show RHs E R ∧ Rok R from ⟨hR, hok⟩)
  clear hO2 hR2 hAP hST h0 h1 h2 h3 hB2 hE hEK hR hok
  go_enter Tryz.func19, Tryz.ntmps19
  go_upto_region 2 with (rw [← hW2]; refine wp_app2 _ rfl _ _ rfl 0 x cx h rfl (unhide HO2) (some ⟨w.heap.size, 0, none⟩) 1 [c] _ rfl rfl (unhide HR2) (fun h => by cases h) (by simp; omega) (Nat.zero_le _) ?_; intro x' cx' l w3 hl3 ho3 hg3 hloc3; have k3 := unhide HST w3 hg3; have k30 := k3.1; have k31 := k3.2; clear k3)
  obtain ⟨g', hP⟩ := unhide HAP x' cx' l w3 ho3 hg3 (unhide hloc3)
  have hll : l.length = h.length + 1 := by rw [unhide hl3]; simp
  obtain ⟨V, hV⟩ : ∃ V, V = w3.setCell ⟨a, 0, none⟩ (.slice x' l.length cx') := ⟨_, rfl⟩
  rw [← hV] at hP ⊢
  have HL : Hid (l = h ++ [c]) := unhide hl3
  have HLL := hide hll
  have hlb : l.length ≤ 8196 := by omega
  have hVs : w.heap.size ≤ V.heap.size := hP.kp.size
  obtain ⟨V5, hV5⟩ : ∃ V5, V5 = V.alloc (.cells #[.int .u8 13, .int .u8 10, .int .u8 13, .int .u8 10] 5 (4, 5)) := ⟨_, rfl⟩
  have hb5 : Below V.heap.size V V5 := by rw [hV5]; exact (Below.refl _ _).alloc (Nat.le_refl _) _
  have hP5 := hP.behind hb5
  have HSX := hide (hasSuffix_any x' cx' l (some ⟨V.heap.size, 0, none⟩) 4 hend V5 hP5.own.toBs (by rw [hV5]; exact bs4 V))
  have ca := hP.bx.cell
  have ca5 := hP5.bx.cell
  have cb5 := hP5.rb.cell
  have kc := fun (w : World) (C : Array Value) (n c : Nat) => Lib.run_convert_bytes_const (P := Tryz.prog) w 22 5 C n c Tryz.underlying22 Tryz.underlying5
  have HP5 := hide hP5
  have HE5 : Hid (E V5) := (unhide HEK).kp (unhide HE) hB hgB hP5.kp
  have HS0 : Hid (stepM R (.head h) Q c = if hend <:+ l then bhM R Q (l.take (l.length - 4)) else if l.length = 8196 then (431, .head h, Q) else (1, .head l, Q)) := by
    show _ = _
    unfold stepM
    simp only
    rw [unhide HLL, unhide HL]
  clear hP hP5 hV hll hg3 ho3 hl3 hloc3 k30 k31 hW2 HO2 HR2 HAP HST c1 HL HLL
  by_cases hsf : hend <:+ l
  · rw [decide_eq_true hsf] at HSX
    have h4 : 4 ≤ l.length := hsf.length_le
    have HS : Hid (stepM R (.head h) Q c = bhM R Q (l.take (l.length - 4))) := by show _ = _; rw [unhide HS0, if_pos hsf]
    obtain ⟨H, hH⟩ : ∃ H, l.length - 4 = H := ⟨_, rfl⟩
    have hH2 : (l.length : Int) - 4 = (H : Int) := by omega
    have hHl : H ≤ l.length := by omega
    rw [hH] at HS
    have hwr : IntKind.i64.wrap (H : Int) = (H : Int) := by rw [IntKind.wrap_i64]; omega
    have hH0 : (0 : Int) ≤ (H : Int) := by omega
    have hHc : (H : Int) ≤ (cx' : Int) := by have := (unhide HP5).own.toBs.le; omega
    have HBB := hide ((unhide HP5).own.toBs.row.take H)
    have ks1 := run_str V5 x' H cx' (l.take H) (unhide HBB) (by simp; omega)
    have ks2 := run_str V5.drew x' H cx' (l.take H) ((unhide HBB).below ((Below.refl V5.heap.size V5).drew) (Nat.le_refl _)) (by simp; omega)
    have HBC := hide (fun wx (hb : Below V5.heap.size V5 wx) => behindHead_any E R (unhide HRR).1 (unhide HRR).2 wx g' r tk Q hp hc bp bc (l.take H) ((unhide HP5).rd.below hb) ((unhide HEK).below (unhide HE5) (by have := hb5.size; omega) hb) (by simp; omega))
    clear hsf hH HS0
    go_wp2_with fail
    rw [← hV5]
    refine (unhide HSX).mono ?_
    rintro e w2 ⟨rfl, rfl⟩
    clear hV5
    go_upto_region 3 with fail
    go_region_law (go_simp; go_at_call 21; refine (unhide HBC _ ((Below.refl _ _).drew)).mono ?_; rintro e w7 ⟨rfl, hr7⟩)
    all_goals
      go_wp2_with fail
      go_ret
      rw [unhide HS]
      exact Ret.behind ((unhide HP5).kp.trans (Kp.of ((Below.refl _ _).drew))) (fun k hk h0 => by rw [(unhide HP5).old k hk]; exact h0) ⟨rfl, hr7⟩
  · rw [decide_eq_false hsf] at HSX
    by_cases h8 : l.length = 8196
    · have h8' : ((l.length : Int) == 8196) = true := by rw [h8]; rfl
      have HS : Hid (stepM R (.head h) Q c = (431, .head h, Q)) := by show _ = _; rw [unhide HS0, if_neg hsf, if_pos h8]
      clear hsf HS0 h8
      go_wp2_with fail
      rw [← hV5]
      refine (unhide HSX).mono ?_
      rintro e w2 ⟨rfl, rfl⟩
      clear hV5
      go_wp2
      go_ret
      rw [unhide HS]
      exact ⟨rfl, g', tk, hp, hc, bp, bc, (unhide HP5).rd, fun e => (by cases e), (unhide HP5).kp, fun k hk h0 => by rw [(unhide HP5).old k hk]; exact h0⟩
    · have h8' : ((l.length : Int) == 8196) = false := by rw [beq_eq_false_iff_ne]; omega
      have HS : Hid (stepM R (.head h) Q c = (1, .head l, Q)) := by show _ = _; rw [unhide HS0, if_neg hsf, if_neg h8]
      have hl8 : l.length < 8196 := by omega
      have HX : Hid (stV g' V5 r (.head l) tk) := ⟨a, b, x', cx', htk, (unhide HP5).bx, ((unhide HP5).old a hal).trans g1, (unhide HP5).own, (unhide HP5).tags, (unhide HP5).rb, ((unhide HP5).old b hbl).trans g3, hl8⟩
      clear hsf HS0 h8 htk
      go_wp2_with fail
      rw [← hV5]
      refine (unhide HSX).mono ?_
      rintro e w2 ⟨rfl, rfl⟩
      clear hV5
      go_wp2
      go_ret
      rw [unhide HS]
      exact ⟨rfl, g', tk, hp, hc, bp, bc, (unhide HP5).rd, fun _ => unhide HX, (unhide HP5).kp, fun k hk h0 => by rw [(unhide HP5).old k hk]; exact h0⟩
#print axioms take_head
end Go.Proofs.YthkadboeokgjnacGreatDoor
