/-
  httpd's reader: a byte of a text that must stand there.
-/
import Derived.Test.YthkadboeokgjnacGreatDoorHtS
set_option linter.unusedVariables false
set_option maxRecDepth 1000000
namespace Go.Proofs.YthkadboeokgjnacGreatDoor
open Go.RowKit

theorem run_ixs (w : World) (l : List UInt8) (k : Nat) (h : k < l.length) : (Instr.index 9 (.string (str l)) (.int .i64 (k : Int))).run Tryz.prog w = .ok (.int .u8 ((l.getD k 0).toNat : Int)) w := by
  rw [run_index_string w 9 (str l) .i64 (k : Int) Tryz.underlying9]
  have hs : (str l).size = l.length := str_size l
  rw [dif_pos (by rw [hs]; omega)]
  have e2 : ((str l)[(k : Int).toNat]'(by rw [hs]; omega)) = l.getD k 0 := by
    have : (l.toArray[k]'(by simpa using h)) = l.getD k 0 := by simp [h]
    exact this
  rw [e2]
theorem RdB.setBox {w : World} {g : Nat → Nat} {r : Nat} {tk : Value} {Q : Rq} {hp : Option Addr} {hc : Nat} {bp : Option Addr} {bc : Nat} (h : RdB w g r tk Q hp hc bp bc) (b : Nat) (v : Value) (hb : g b = 2 ∨ g b = 7) : RdB (w.setCell ⟨b, 0, none⟩ v) g r tk Q hp hc bp bc :=
  h.same (fun k hk => by simp [World.setCell]; exact h.inb k hk) (fun k hk => ⟨Below.heap_setCell w ⟨b, 0, none⟩ v k (by rintro rfl; omega), rfl⟩)
theorem thV.setBox {w : World} {g : Nat → Nat} {r : Nat} {t : Th} {tv : Value} (h : thV g w r t tv) (b : Nat) (v : Value) (hb : g b = 2 ∨ g b = 7) : thV g (w.setCell ⟨b, 0, none⟩ v) r t tv :=
  h.same (fun k hk _ => ⟨Below.heap_setCell w ⟨b, 0, none⟩ v k (by rintro rfl; omega), hk⟩)
theorem Bx.setOther {w : World} {k b : Nat} {v u : Value} (h : Bx w k v) (hn : k ≠ b) : Bx (w.setCell ⟨b, 0, none⟩ u) k v := h.of (Below.heap_setCell w ⟨b, 0, none⟩ u k hn)
theorem kp_box (w : World) (g : Nat → Nat) (b : Nat) (v : Value) (hb : g b ≠ 0) : Kp w (w.setCell ⟨b, 0, none⟩ v) (fun k => g k ≠ 0) := Kp.ofG (gsc w ⟨b, 0, none⟩ v) (fun k hk => by cases hk; exact hb)
theorem u8_ne (c x : UInt8) : ((c.toNat : Int) != (x.toNat : Int)) = decide (c ≠ x) := by
  by_cases h : c = x
  · subst h; simp
  · rw [decide_eq_true h]
    have : c.toNat ≠ x.toNat := fun e => h (UInt8.toNat_inj.1 e)
    simp; omega

set_option maxHeartbeats 4000000 in
theorem take_text (R : HdM) (w : World) (g : Nat → Nat) (r : Nat) (tk : Value) (u : List UInt8) (i : Nat) (t : Th) (Q : Rq) (hp : Option Addr) (hc : Nat) (bp : Option Addr) (bc : Nat) (c : UInt8) (a b d : Nat) (tv : Value)
    (h : RdB w g r tk Q hp hc bp bc) (h1 : Bx w a (.string (str u))) (g1 : g a = 6) (h2 : Bx w b (.int .i64 (i : Int))) (g2 : g b = 2) (h3 : Bx w d tv) (g3 : g d = 6) (ht : thV g w r t tv) (hi : i < u.length) (hu : u.length ≤ 1000) (hq : Q.b.length ≤ 32768)
    (htk : tk = .func (.func 52) #[] #[pt a, pt b, pt d]) :
    Calls Tryz.prog 52 #[.int .u8 (c.toNat : Int), pt a, pt b, pt d] w fun e w' => Ret w g r (stepM R (.text u i t) Q c) e w' := by
  have c1 := h1.cell
  have c2 := h2.cell
  have f2 := h2.fz
  have hsz : (str u).size = u.length := str_size u
  have hix : ∀ w, (Instr.index 9 (.string (str u)) (.int .i64 (i : Int))).run Tryz.prog w = .ok (.int .u8 ((u.getD i 0).toNat : Int)) w := fun w => run_ixs w u i hi
  obtain ⟨x, hx⟩ : ∃ x, u.getD i 0 = x := ⟨_, rfl⟩
  rw [hx] at hix
  have hne := u8_ne c x
  have HH := hide h
  by_cases hcx : c = x
  · rw [decide_eq_false (by simpa using hcx)] at hne
    obtain ⟨V, hV⟩ : ∃ V, V = w.setCell ⟨b, 0, none⟩ (.int .i64 ((i : Int) + 1)) := ⟨_, rfl⟩
    have hK : Kp w V (fun k => g k ≠ 0) := by rw [hV]; exact kp_box w g b _ (by omega)
    have hR : RdB V g r tk Q hp hc bp bc := by rw [hV]; exact h.setBox b _ (.inl g2)
    have hT : thV g V r t tv := by rw [hV]; exact ht.setBox b _ (.inl g2)
    have v1 : Bx V a (.string (str u)) := by rw [hV]; exact h1.setOther (by rintro rfl; omega)
    have v2 : Bx V b (.int .i64 (((i + 1 : Nat)) : Int)) := by rw [hV]; exact h2.set _
    have v3 : Bx V d tv := by rw [hV]; exact h3.setOther (by rintro rfl; omega)
    have k1 := v1.cell
    have k2 : V.cell? ⟨b, 0, none⟩ = some (.int .i64 ((i : Int) + 1)) := v2.cell
    have k3 := v3.cell
    have HK := hide hK
    have HR := hide hR
    have HT := hide hT
    have hL1 : (i : Int) + 1 ≤ 1000 := by omega
    by_cases hl : i + 1 < u.length
    · have hl' : (i : Int) + 1 < (u.length : Int) := by omega
      have HS : Hid (stepM R (.text u i t) Q c = (1, .text u (i + 1) t, Q)) := by
        show _ = _
        unfold stepM
        simp only [hx, hcx, ne_eq, not_true_eq_false, if_false, if_pos hl]
      have HX : Hid (stV g V r (.text u (i + 1) t) tk) := ⟨a, b, d, tv, htk, v1, g1, v2, g2, v3, g3, hT, hl, hu⟩
      clear h h1 h2 h3 ht hR hT hK v1 v2 v3 hx hcx hl htk
      go_enter Tryz.func52, Tryz.ntmps52
      go_upto_region 4 with fail
      rw [← hV]
      clear hV
      go_wp2
      go_ret
      rw [unhide HS]
      exact ⟨rfl, g, tk, hp, hc, bp, bc, unhide HR, fun _ => unhide HX, unhide HK, fun _ _ h => h⟩
    · have hl' : ¬ (i : Int) + 1 < (u.length : Int) := by omega
      have HS : Hid (stepM R (.text u i t) Q c = ((thM t (.text u i t) Q).1, (thM t (.text u i t) Q).2, Q)) := by
        show _ = _
        unfold stepM
        simp only [hx, hcx, ne_eq, not_true_eq_false, if_false, if_neg hl]
      cases t with
      | fin =>
        obtain rfl : tv = _ := hT
        clear h h1 h2 h3 ht hR hK v1 v2 v3 hx hcx hl htk HT
        go_enter Tryz.func52, Tryz.ntmps52
        go_upto_region 4 with fail
        rw [← hV]
        clear hV
        go_wp2_with (go_at_call 26; refine (end_any V r).mono ?_; rintro e w2 ⟨rfl, rfl⟩)
        go_ret
        rw [unhide HS]
        exact ⟨rfl, g, tk, hp, hc, bp, bc, unhide HR, fun e => (by cases e), unhide HK, fun _ _ h => h⟩
      | chk =>
        obtain rfl : tv = _ := hT
        have HC := hide (chunk_any V g r tk Q hp hc bp bc hR)
        clear h h1 h2 h3 ht hR hK v1 v2 v3 hx hcx hl htk HT
        go_enter Tryz.func52, Tryz.ntmps52
        go_upto_region 4 with fail
        rw [← hV]
        clear hV
        go_wp2_with (go_at_call 24; refine (unhide HC).mono ?_; rintro e w2 ⟨rfl, hr2⟩)
        go_ret
        rw [unhide HS]
        exact Ret.behind (unhide HK) (fun _ _ h => h) (Res.ret (x := (1, .chunk 0 0)) ⟨rfl, hr2⟩)
      | cb n =>
        obtain ⟨p, q, rfl, p1, p2, p3, p4, p5⟩ := hT
        have HC := hide (then_cb V g r p q tk n Q hp hc bp bc hR p1 p3 p5 hq)
        clear h h1 h2 h3 ht hR hK v1 v2 v3 hx hcx hl htk HT p1 p2 p3 p4 p5
        go_enter Tryz.func52, Tryz.ntmps52
        go_upto_region 4 with fail
        rw [← hV]
        clear hV
        go_wp2_with (go_at_call 35; refine (unhide HC).mono ?_; rintro e w2 ⟨rfl, hr2⟩)
        go_ret
        rw [unhide HS]
        exact Ret.behind (unhide HK) (fun _ _ h => h) (Res.ret (x := cbM n Q) ⟨rfl, hr2⟩)
      | tl =>
        obtain ⟨p, rfl, p1, p2⟩ := hT
        have HC := hide (then_tl V g r p tk Q hp hc bp bc hR p1)
        clear h h1 h2 h3 ht hR hK v1 v2 v3 hx hcx hl htk HT p1 p2
        go_enter Tryz.func52, Tryz.ntmps52
        go_upto_region 4 with fail
        rw [← hV]
        clear hV
        go_wp2_with (go_at_call 53; refine (unhide HC).mono ?_; rintro e w2 ⟨rfl, hr2⟩)
        go_ret
        rw [unhide HS]
        exact Ret.behind (unhide HK) (fun _ _ h => h) (Res.ret (x := (1, .text crlf 0 .chk)) ⟨rfl, hr2⟩)
  · rw [decide_eq_true hcx] at hne
    have HS : Hid (stepM R (.text u i t) Q c = (400, .text u i t, Q)) := by
      show _ = _
      unfold stepM
      simp only [hx, if_pos hcx]
    clear h h1 h2 h3 ht hx hcx htk
    go_enter Tryz.func52, Tryz.ntmps52
    go_wp2
    go_ret
    rw [unhide HS]
    exact ⟨rfl, g, tk, hp, hc, bp, bc, unhide HH, fun e => (by cases e), Kp.of (Below.refl _ _), fun _ _ h => h⟩
#print axioms take_text
end Go.Proofs.YthkadboeokgjnacGreatDoor
