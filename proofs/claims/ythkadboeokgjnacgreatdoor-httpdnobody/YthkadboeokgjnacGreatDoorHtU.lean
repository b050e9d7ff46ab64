/-
  httpd's reader: a byte of the body.
-/
import Derived.Test.YthkadboeokgjnacGreatDoorHtT
import Derived.Deep.RegionHeld3
import Derived.Deep.RegionLaw
import Derived.Deep.DeepCutAuto
set_option linter.unusedVariables false
set_option maxRecDepth 1000000
namespace Go.Proofs.YthkadboeokgjnacGreatDoor
open Go.RowKit

/-- What a byte more in the body leaves. -/
structure BtP (w V : World) (g g' : Nat → Nat) (r : Nat) (tk : Value) (Q : Rq) (hp : Option Addr) (hc : Nat) (bp : Option Addr) (bc : Nat) : Prop where
  rd : RdB V g' r tk Q hp hc bp bc
  kp : Kp w V (fun k => g k ≠ 0)
  old : ∀ k, k < w.heap.size → g' k = g k
  stay : ∀ k, g k = 2 ∨ g k = 6 ∨ g k = 7 → V.heap[k]? = w.heap[k]?
theorem body_app {w w2 w3 : World} {g : Nat → Nat} {r : Nat} {tk : Value} {Q : Rq} {hp : Option Addr} {hc : Nat} {bp bp' : Option Addr} {bc bc' : Nat} {l : List UInt8} {c : UInt8} (h : RdB w g r tk Q hp hc bp bc) (hb : Below w.heap.size w w2)
    (hl : l = Q.b ++ [c]) (ho : OwnB w3 0 bp' bc' l) (hg : w2.grownBy w3 (blk bp)) (hloc : bp' = bp ∨ ∀ k, blk bp' = some k → w2.heap.size ≤ k) (hf : Q.b.length + 1 ≤ 1000000) :
    ∃ g', BtP w (w3.setCell ⟨r, 4, none⟩ (.slice bp' l.length bc')) g g' r tk { Q with b := Q.b ++ [c] } hp hc bp' bc' := by
  have hr := h.lt
  have hbs := hb.size
  have hgs := hg.size
  have hbl : ∀ k, blk bp = some k → k < w.heap.size := fun k hk => h.inb k (by rw [h.bt k hk]; decide)
  have hbr : blk bp ≠ some r := fun e => by have := h.bt r e; rw [h.tag] at this; cases this
  have same3 : ∀ k, k < w.heap.size → blk bp ≠ some k → w3.heap[k]? = w.heap[k]? := fun k hk hn => (hg.block k (by omega) (fun e => hn e.symm)).trans (hb.block k hk)
  have hbp' : ∀ k, blk bp' = some k → blk bp = some k ∨ w.heap.size ≤ k := by
    intro k hk
    rcases hloc with e | e
    · left; rw [← e]; exact hk
    · right; have := e k hk; omega
  have hpr : ∀ k, blk bp' = some k → k ≠ r := fun k hk e => by
    rcases hbp' k hk with h1 | h1
    · exact hbr (by rw [h1, e])
    · omega
  have ne : ∀ k, k ≠ r → (w3.setCell ⟨r, 4, none⟩ (.slice bp' l.length bc')).heap[k]? = w3.heap[k]? := fun k hk => Below.heap_setCell w3 ⟨r, 4, none⟩ _ k hk
  have hpb : ∀ k, blk hp = some k → blk bp ≠ some k := fun k hk e => by have h1 := h.ht k hk; have h2 := h.bt k e; omega
  have hpn : ∀ k, blk hp = some k → k ≠ r := fun k hk e => by have h1 := h.ht k hk; rw [e, h.tag] at h1; cases h1
  have hpl : ∀ k, blk hp = some k → k < w.heap.size := fun k hk => h.inb k (by rw [h.ht k hk]; decide)
  refine ⟨fun k => if k < w.heap.size then g k else if blk bp' = some k then 5 else 0, ⟨?_, ?_, ?_, ?_, ?_, ?_, ?_, ?_⟩, ?_, ?_, ?_⟩
  · intro k hk
    simp only [World.setCell, Array.size_modify]
    by_cases h1 : k < w.heap.size
    · omega
    · simp only [if_neg h1] at hk
      by_cases h2 : blk bp' = some k
      · exact (ho.lt k h2).2
      · simp [h2] at hk
  · simp only [if_pos hr]; exact h.tag
  · have hrow := (same3 r hr hbr).trans h.row
    rw [heap_setCell_same w3 r 4 _ _ _ hrow]
    simp [hl]
  · exact h.hdr.same (fun k hk hl => (ne k (hpn k hk)).trans (same3 k hl (hpb k hk)))
  · intro k hk
    simp only [if_pos (hpl k hk)]
    exact h.ht k hk
  · have := ho.same (w' := w3.setCell ⟨r, 4, none⟩ (.slice bp' l.length bc')) (fun k hk => ne k (hpr k hk))
    show OwnB _ 0 bp' bc' (Q.b ++ [c])
    rw [← hl]
    exact this
  · intro k hk
    by_cases h1 : k < w.heap.size
    · simp only [if_pos h1]
      rcases hbp' k hk with h2 | h2
      · exact h.bt k h2
      · omega
    · simp only [if_neg h1, if_pos hk]
  · simp; omega
  · have k1 : Kp w w2 (fun k => g k ≠ 0) := Kp.of hb
    have k2 : Kp w2 w3 (fun k => g k ≠ 0) := Kp.ofG hg (fun k hk => by rw [h.bt k hk]; decide)
    exact (k1.trans k2).trans (Kp.ofG (gsc w3 ⟨r, 4, none⟩ _) (fun k hk => by cases hk; rw [h.tag]; decide))
  · intro k hk
    simp only [if_pos hk]
  · intro k hk
    have h0 : g k ≠ 0 := by rcases hk with e | e | e <;> omega
    have hl := h.inb k h0
    refine (ne k (by rintro rfl; rw [h.tag] at hk; omega)).trans (same3 k hl (fun e => by have := h.bt k e; omega))

theorem row1 (w : World) (c : UInt8) (V : World) (h : V.heap[w.heap.size]? = some (.cells #[.int .u8 (c.toNat : Int)] 5 (0, 0))) : Row V (some ⟨w.heap.size, 0, none⟩) [c] := by
  intro _
  refine ⟨w.heap.size, 0, rfl, fun i hi => ?_⟩
  obtain rfl : i = 0 := by simpa using hi
  rw [cell_of_row V _ _ _ _ _ h]
  simp

set_option maxHeartbeats 4000000 in
theorem take_bytes (R : HdM) (w : World) (g : Nat → Nat) (r : Nat) (tk : Value) (n : Nat) (t : Th) (Q : Rq) (hp : Option Addr) (hc : Nat) (bp : Option Addr) (bc : Nat) (c : UInt8) (a b d : Nat) (tv : Value)
    (h : RdB w g r tk Q hp hc bp bc) (h1 : Bx w a (pt r)) (g1 : g a = 6) (h2 : Bx w b (.int .i64 (n : Int))) (g2 : g b = 2) (h3 : Bx w d tv) (g3 : g d = 6) (ht : thV g w r t tv) (hn : 0 < n) (hn2 : n ≤ 4294967296) (hq : Q.b.length + n ≤ 32768)
    (htk : tk = .func (.func 37) #[] #[pt a, pt b, pt d]) :
    Calls Tryz.prog 37 #[.int .u8 (c.toNat : Int), pt a, pt b, pt d] w fun e w' => Ret w g r (stepM R (.bytes n t) Q c) e w' := by
  have c1 := h1.cell
  have c4 := h.bodyCell
  have f4 := frozen_of_row w r 4 _ _ h.row
  have HH := hide h
  have hrl := h.lt
  have hal := h1.lt
  obtain ⟨W2, hW2⟩ : ∃ W2, W2 = (w.alloc (.cells #[.int .u8 (c.toNat : Int)] 5)).drew := ⟨_, rfl⟩
  have hB2 : Below w.heap.size w W2 := by rw [hW2]; exact ((Below.refl _ _).alloc (Nat.le_refl _) _).drew
  have hO2 : OwnB W2 0 bp bc Q.b := h.body.below hB2 (Nat.le_refl _)
  have hR2 : Row W2 (some ⟨w.heap.size, 0, none⟩) [c] := row1 w c W2 (by rw [hW2]; exact heap_alloc_new w _)
  have hAP : ∀ (bp' : Option Addr) (bc' : Nat) (l : List UInt8) (w3 : World), l = Q.b ++ [c] → OwnB w3 0 bp' bc' l → W2.grownBy w3 (blk bp) → (bp' = bp ∨ ∀ k, blk bp' = some k → W2.heap.size ≤ k) → ∃ g', BtP w (w3.setCell ⟨r, 4, none⟩ (.slice bp' l.length bc')) g g' r tk { Q with b := Q.b ++ [c] } hp hc bp' bc' :=
    fun bp' bc' l w3 e1 e2 e3 e4 => body_app h hB2 e1 e2 e3 e4 (by omega)
  have hST : ∀ (w3 : World), W2.grownBy w3 (blk bp) → w3.cell? ⟨a, 0, none⟩ = some (pt r) ∧ w3.cell? ⟨r, 4, none⟩ = some (.slice bp Q.b.length bc) ∧ w3.frozen? ⟨r, 4, none⟩ = false := by
    intro w3 hg
    have s3 : ∀ k, k < w.heap.size → blk bp ≠ some k → w3.heap[k]? = w.heap[k]? := fun k hk hn => (hg.block k (by have := hB2.size; omega) (fun e => hn e.symm)).trans (hB2.block k hk)
    have sr := (s3 r hrl (fun e => by have := h.bt r e; rw [h.tag] at this; cases this)).trans h.row
    refine ⟨(h1.of (s3 a hal (fun e => by have := h.bt a e; omega))).cell, by rw [cell_of_row w3 r 4 _ _ _ sr]; rfl, frozen_of_row w3 r 4 _ _ sr⟩
  have HO2 := hide hO2
  have HR2 := hide hR2
  have HAP := hide hAP
  have HST := hide hST
  have HBX := hide (show Bx w a (pt r) ∧ Bx w b (.int .i64 (n : Int)) ∧ Bx w d tv from ⟨h1, h2, h3⟩)
  have HTV := hide ht
  have hL0 : Q.b.length ≤ 32768 := by omega
  clear hO2 hR2 hAP hST h h1 h2 h3 ht hB2
  go_enter Tryz.func37, Tryz.ntmps37
  go_upto_region 1 with fail
  go_cut [] (fun wx => ∃ bp' bc' g', Hid (BtP w wx g g' r tk { Q with b := Q.b ++ [c] } hp hc bp' bc'))
  case first =>
    go_region_law (rw [← hW2]; refine stp_app2 _ rfl _ _ rfl 0 bp bc Q.b _ rfl rfl (unhide HO2) (some ⟨w.heap.size, 0, none⟩) 1 [c] _ rfl rfl (unhide HR2) (fun h => by cases h) (by simp; omega) (Nat.zero_le _) ?_; intro bp' bc' l w3 hl3 ho3 hg3 hloc3; have k3 := unhide HST w3 (unhide hg3); have k30 := k3.1; have k31 := k3.2.1; have k32 := k3.2.2; clear k3)
    all_goals
      go_wp2_with fail
      go_meet
      case rel =>
        obtain ⟨g', hg'⟩ := unhide HAP bp' bc' l w3 (unhide hl3) (unhide ho3) (unhide hg3) (unhide hloc3)
        exact ⟨bp', bc', g', hg'⟩
  case rest =>
    obtain ⟨bp', bc', g', HP⟩ := hcut
    clear HO2 HR2 HAP HST hW2 c1 c4 f4
    have hP := unhide HP
    have hbl := (unhide HBX).2.1.lt
    have hdl := (unhide HBX).2.2.lt
    have q1 : Bx wc a (pt r) := (unhide HBX).1.of (hP.stay a (.inr (.inl g1)))
    have q2 : Bx wc b (.int .i64 (n : Int)) := (unhide HBX).2.1.of (hP.stay b (.inl g2))
    have q3 : Bx wc d tv := (unhide HBX).2.2.of (hP.stay d (.inr (.inl g3)))
    have g1' : g' a = 6 := (hP.old a hal).trans g1
    have g2' : g' b = 2 := (hP.old b hbl).trans g2
    have g3' : g' d = 6 := (hP.old d hdl).trans g3
    have hT : thV g' wc r t tv := (unhide HTV).same (fun k hk hl => ⟨hP.stay k (.inr (.inl hk)), (hP.old k hl).trans hk⟩)
    have c2 := q2.cell
    have f2 := q2.fz
    obtain ⟨V, hV⟩ : ∃ V, V = wc.setCell ⟨b, 0, none⟩ (.int .i64 ((n : Int) - 1)) := ⟨_, rfl⟩
    have hR : RdB V g' r tk { Q with b := Q.b ++ [c] } hp hc bp' bc' := by rw [hV]; exact hP.rd.setBox b _ (.inl g2')
    have hTV : thV g' V r t tv := by rw [hV]; exact hT.setBox b _ (.inl g2')
    have v1 : Bx V a (pt r) := by rw [hV]; exact q1.setOther (by rintro rfl; omega)
    have v2 : Bx V b (.int .i64 (((n - 1 : Nat)) : Int)) := by rw [hV, show ((n - 1 : Nat) : Int) = (n : Int) - 1 by omega]; exact q2.set _
    have v3 : Bx V d tv := by rw [hV]; exact q3.setOther (by rintro rfl; omega)
    have k2 : V.cell? ⟨b, 0, none⟩ = some (.int .i64 ((n : Int) - 1)) := by have := v2.cell; rwa [show ((n - 1 : Nat) : Int) = (n : Int) - 1 by omega] at this
    have k3 := v3.cell
    have hK : Kp w V (fun k => g k ≠ 0) := by rw [hV]; exact hP.kp.trans' (kp_box wc g' b _ (by omega)) (fun i hi hs => by rw [hP.old i hi] at hs; exact hs)
    have HK := hide hK
    have HR := hide hR
    have HOLD : Hid (∀ k, k < w.heap.size → g k = 0 → g' k = 0) := fun k hk h0 => by rw [hP.old k hk]; exact h0
    have hq2 : (Q.b ++ [c]).length ≤ 32768 := by simp; omega
    by_cases hl : 1 < n
    · have hl' : (0 : Int) < (n : Int) - 1 := by omega
      have HS : Hid (stepM R (.bytes n t) Q c = (1, .bytes (n - 1) t, { Q with b := Q.b ++ [c] })) := by
        show _ = _
        unfold stepM
        simp only [if_pos hl]
      have HX : Hid (stV g' V r (.bytes (n - 1) t) tk) := ⟨a, b, d, tv, htk, v1, g1', v2, g2', v3, g3', hTV, by omega, by omega⟩
      clear hP hR hT hTV hK v1 v2 v3 q1 q2 q3 hl htk HP HTV HBX
      go_upto_region 3 with fail
      rw [← hV]
      clear hV
      go_wp2
      go_ret
      rw [unhide HS]
      exact ⟨rfl, g', tk, hp, hc, bp', bc', unhide HR, fun _ => unhide HX, unhide HK, unhide HOLD⟩
    · obtain rfl : n = 1 := by omega
      have HS : Hid (stepM R (.bytes 1 t) Q c = ((thM t (.bytes 1 t) { Q with b := Q.b ++ [c] }).1, (thM t (.bytes 1 t) { Q with b := Q.b ++ [c] }).2, { Q with b := Q.b ++ [c] })) := by
        show _ = _
        unfold stepM
        simp only [if_neg hl]
      have k2' : V.cell? ⟨b, 0, none⟩ = some (.int .i64 0) := k2
      clear k2
      cases t with
      | fin =>
        obtain rfl : tv = _ := hTV
        clear hP hR hT hK v1 v2 v3 q1 q2 q3 hl htk HP HTV HBX
        go_upto_region 3 with fail
        rw [show (((1 : Nat) : Int) - 1) = 0 from rfl] at hV
        rw [← hV]
        clear hV
        go_wp2_with (go_at_call 26; refine (end_any V r).mono ?_; rintro e w2 ⟨rfl, rfl⟩)
        go_ret
        rw [unhide HS]
        exact ⟨rfl, g', tk, hp, hc, bp', bc', unhide HR, fun e => (by cases e), unhide HK, unhide HOLD⟩
      | chk =>
        obtain rfl : tv = _ := hTV
        have HC := hide (chunk_any V g' r tk _ hp hc bp' bc' hR)
        clear hP hR hT hK v1 v2 v3 q1 q2 q3 hl htk HP HTV HBX
        go_upto_region 3 with fail
        rw [show (((1 : Nat) : Int) - 1) = 0 from rfl] at hV
        rw [← hV]
        clear hV
        go_wp2_with (go_at_call 24; refine (unhide HC).mono ?_; rintro e w2 ⟨rfl, hr2⟩)
        go_ret
        rw [unhide HS]
        exact Ret.behind (unhide HK) (unhide HOLD) (Res.ret (x := (1, .chunk 0 0)) ⟨rfl, hr2⟩)
      | cb m =>
        obtain ⟨p, q, rfl, p1, p2, p3, p4, p5⟩ := hTV
        have HC := hide (then_cb V g' r p q tk m _ hp hc bp' bc' hR p1 p3 p5 hq2)
        clear hP hR hT hK v1 v2 v3 q1 q2 q3 hl htk HP HTV HBX p1 p2 p3 p4 p5
        go_upto_region 3 with fail
        rw [show (((1 : Nat) : Int) - 1) = 0 from rfl] at hV
        rw [← hV]
        clear hV
        go_wp2_with (go_at_call 35; refine (unhide HC).mono ?_; rintro e w2 ⟨rfl, hr2⟩)
        go_ret
        rw [unhide HS]
        exact Ret.behind (unhide HK) (unhide HOLD) (Res.ret (x := cbM m { Q with b := Q.b ++ [c] }) ⟨rfl, hr2⟩)
      | tl =>
        obtain ⟨p, rfl, p1, p2⟩ := hTV
        have HC := hide (then_tl V g' r p tk _ hp hc bp' bc' hR p1)
        clear hP hR hT hK v1 v2 v3 q1 q2 q3 hl htk HP HTV HBX p1 p2
        go_upto_region 3 with fail
        rw [show (((1 : Nat) : Int) - 1) = 0 from rfl] at hV
        rw [← hV]
        clear hV
        go_wp2_with (go_at_call 53; refine (unhide HC).mono ?_; rintro e w2 ⟨rfl, hr2⟩)
        go_ret
        rw [unhide HS]
        exact Ret.behind (unhide HK) (unhide HOLD) (Res.ret (x := (1, .text crlf 0 .chk)) ⟨rfl, hr2⟩)
#print axioms take_bytes
end Go.Proofs.YthkadboeokgjnacGreatDoor
