/-
  httpd's reader: a chunk begins; what comes then.
-/
import Derived.Test.YthkadboeokgjnacGreatDoorHtR
set_option linter.unusedVariables false
set_option maxRecDepth 1000000
namespace Go.Proofs.YthkadboeokgjnacGreatDoor
open Go.RowKit

theorem one (w : World) (a : Value) (A : TypeId) : ∃ V, V = (w.alloc (.cells #[a] A)) ∧ Below w.heap.size w V ∧ V.heap.size = w.heap.size + 1 ∧ Bx V w.heap.size a :=
  ⟨_, rfl, (Below.refl _ _).alloc (Nat.le_refl _) _, by simp, Bx.new w a A⟩
theorem RdB.bodyCell {w : World} {g : Nat → Nat} {r : Nat} {tk : Value} {Q : Rq} {hp : Option Addr} {hc : Nat} {bp : Option Addr} {bc : Nat} (h : RdB w g r tk Q hp hc bp bc) : w.cell? ⟨r, 4, none⟩ = some (.slice bp Q.b.length bc) := by rw [cell_of_row w r 4 _ _ _ h.row]; rfl
set_option maxHeartbeats 2000000 in
theorem chunkBytes_any (w : World) (g : Nat → Nat) (r : Nat) (tk : Value) (n : Nat) (Q : Rq) (hp : Option Addr) (hc : Nat) (bp : Option Addr) (bc : Nat) (h : RdB w g r tk Q hp hc bp bc) (hn : n < 4294967296) (hq : Q.b.length ≤ 32768) :
    Calls Tryz.prog 36 #[pt r, .int .u32 (n : Int)] w fun e w' => Res w g r (cbM n Q) Q hp hc bp bc e w' := by
  obtain ⟨V, hV, hb, hs, b0⟩ := one w (pt r) 24
  have c0 := b0.cell
  have c4 := (h.below hb).bodyCell
  have HH := hide h
  have HB := hide hb
  have HX := hide b0
  have HG0 : Hid (RdB V g r tk Q hp hc bp bc) := h.below hb
  obtain ⟨L, hL⟩ : ∃ L, Q.b.length = L := ⟨_, rfl⟩
  have hsub : (32768 : Int) - (L : Int) = ((32768 - L : Nat) : Int) := by omega
  have HC : Hid (cbM n Q = if n > 32768 - L then (413, St.chunk 0 0) else if n = 0 then (1, .text crlf 0 .fin) else (1, .bytes n .tl)) := by show _ = _; unfold cbM; rw [hL]
  obtain ⟨M, hM⟩ : ∃ M, 32768 - L = M := ⟨_, rfl⟩
  rw [hL] at c4 hq
  rw [hM] at hsub HC
  have hMl : M ≤ 32768 := by omega
  have hwr : IntKind.u32.wrap (M : Int) = (M : Int) := by rw [show IntKind.u32.wrap (M : Int) = (M : Int) % 4294967296 from rfl]; omega
  clear h hb b0 hM
  by_cases h1 : n > M
  · have h1' : (M : Int) < (n : Int) := by omega
    have HR : Hid (cbM n Q = (413, St.chunk 0 0)) := by show _ = _; rw [unhide HC, if_pos h1]
    clear h1 hL
    go_enter Tryz.func36, Tryz.ntmps36
    go_upto_region 1 with fail
    rw [← hV]
    clear hV
    go_wp2
    go_ret
    rw [unhide HR]
    exact Res.none (unhide HH) (unhide HB) 413 _ (by decide)
  · have h1' : ¬ (M : Int) < (n : Int) := by omega
    by_cases h0 : n = 0
    · have HR : Hid (cbM n Q = (1, .text crlf 0 .fin)) := by show _ = _; rw [unhide HC, if_neg h1, if_pos h0]
      have HT := hide (text_any V g r tk (.func (.func 26) #[pt r] #[]) .fin crlf Q hp hc bp bc (unhide HG0) rfl (by decide) (by decide))
      subst h0
      clear h1 hL
      go_enter Tryz.func36, Tryz.ntmps36
      go_upto_region 1 with fail
      rw [← hV]
      clear hV
      go_wp2_with (go_at_call 34; refine (unhide HT).mono ?_; rintro e w2 ⟨rfl, hr2⟩)
      go_ret
      rw [unhide HR]
      exact Res.behind (unhide HB) (fun _ _ => rfl) ⟨rfl, hr2⟩
    · have h0' : ((n : Int) == 0) = false := by rw [beq_eq_false_iff_ne]; omega
      have HR : Hid (cbM n Q = (1, .bytes n .tl)) := by show _ = _; rw [unhide HC, if_neg h1, if_neg h0]
      have n0 := tagN_new g w.heap.size [6] 0
      have hG1 : RdB V (tagN g w.heap.size [6]) r tk Q hp hc bp bc := (unhide HG0).same (tagN_inb g _ _ _ (by simp; omega)) (fun k hk => ⟨rfl, tagN_old _ _ _ _ ((unhide HH).inb k (by rcases hk with e | e | e <;> omega))⟩)
      have HT := hide (bytes_any V (tagN g w.heap.size [6]) r tk (.func (.func 53) #[] #[pt w.heap.size]) .tl n Q hp hc bp bc hG1 ⟨w.heap.size, rfl, unhide HX, n0⟩ (by omega) (by omega))
      clear h1 h0 hG1 n0 hL
      go_enter Tryz.func36, Tryz.ntmps36
      go_upto_region 1 with fail
      rw [← hV]
      clear hV
      go_wp2_with (go_at_call 25; refine (unhide HT).mono ?_; rintro e w2 ⟨rfl, hr2⟩)
      go_ret
      rw [unhide HR]
      exact Res.behind (unhide HB) (fun k hk => tagN_old _ _ _ _ hk) ⟨rfl, hr2⟩
#print axioms chunkBytes_any
set_option maxHeartbeats 1000000 in
theorem then_cb (w : World) (g : Nat → Nat) (r a b : Nat) (tk : Value) (n : Nat) (Q : Rq) (hp : Option Addr) (hc : Nat) (bp : Option Addr) (bc : Nat) (h : RdB w g r tk Q hp hc bp bc) (h1 : Bx w a (pt r)) (h2 : Bx w b (.int .u32 (n : Int))) (hn : n < 4294967296) (hq : Q.b.length ≤ 32768) :
    Calls Tryz.prog 35 #[pt a, pt b] w fun e w' => Res w g r (cbM n Q) Q hp hc bp bc e w' := by
  have c1 := h1.cell
  have c2 := h2.cell
  have HC := hide (chunkBytes_any w g r tk n Q hp hc bp bc h hn hq)
  clear h h1 h2
  go_enter Tryz.func35, Tryz.ntmps35
  go_wp2_with (go_at_call 36; refine (unhide HC).mono ?_; rintro e w2 ⟨rfl, hr2⟩)
  go_ret
  exact ⟨rfl, hr2⟩
set_option maxHeartbeats 1000000 in
theorem then_tl (w : World) (g : Nat → Nat) (r a : Nat) (tk : Value) (Q : Rq) (hp : Option Addr) (hc : Nat) (bp : Option Addr) (bc : Nat) (h : RdB w g r tk Q hp hc bp bc) (h1 : Bx w a (pt r)) :
    Calls Tryz.prog 53 #[pt a] w fun e w' => Res w g r (1, .text crlf 0 .chk) Q hp hc bp bc e w' := by
  have c1 := h1.cell
  have HC := hide (text_any w g r tk (.func (.func 24) #[pt r] #[]) .chk crlf Q hp hc bp bc h rfl (by decide) (by decide))
  clear h h1
  go_enter Tryz.func53, Tryz.ntmps53
  go_wp2_with (go_at_call 34; refine (unhide HC).mono ?_; rintro e w2 ⟨rfl, hr2⟩)
  go_ret
  exact ⟨rfl, hr2⟩
#print axioms then_tl

/-- A byte that is taken: what comes of it. -/
def Rtx (w : World) (g : Nat → Nat) (r : Nat) (x : Nat × St × Rq) (w' : World) : Prop :=
  ∃ g' tk' hp hc bp bc, RdB w' g' r tk' x.2.2 hp hc bp bc ∧ (x.1 = 1 → stV g' w' r x.2.1 tk') ∧ Kp w w' (fun k => g k ≠ 0) ∧ ∀ k, k < w.heap.size → g k = 0 → g' k = 0
def Ret (w : World) (g : Nat → Nat) (r : Nat) (x : Nat × St × Rq) (e : Ending) (w' : World) : Prop :=
  e = .returned (.int .i64 (x.1 : Int)) ∧ Hid (Rtx w g r x w')
theorem Res.ret {w : World} {g : Nat → Nat} {r : Nat} {x : Nat × St} {Q : Rq} {hp : Option Addr} {hc : Nat} {bp : Option Addr} {bc : Nat} {e : Ending} {w' : World} (h : Res w g r x Q hp hc bp bc e w') : Ret w g r (x.1, x.2, Q) e w' := by
  obtain ⟨he, g', tk', k1, k2, k3, k4⟩ := h
  exact ⟨he, g', tk', hp, hc, bp, bc, k1, k2, k3, k4⟩
/-- Behind a change of blocks of the reader's own. -/
theorem Ret.behind {w V w' : World} {g g1 : Nat → Nat} {r : Nat} {x : Nat × St × Rq} {e : Ending} (hk : Kp w V (fun k => g k ≠ 0)) (h1 : ∀ k, k < w.heap.size → g k = 0 → g1 k = 0) (h : Ret V g1 r x e w') : Ret w g r x e w' := by
  obtain ⟨he, g', tk', hp, hc, bp, bc, k1, k2, k3, k4⟩ := h
  exact ⟨he, g', tk', hp, hc, bp, bc, k1, k2, hk.trans' k3 (fun i hi hs hz => hs (h1 i hi hz)), fun k hl h0 => k4 k (Nat.lt_of_lt_of_le hl hk.size) (h1 k hl h0)⟩
end Go.Proofs.YthkadboeokgjnacGreatDoor
