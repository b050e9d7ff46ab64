/-
  httpd: what the statements lean on: awake.
-/
import Derived.Test.YthkadboeokgjnabGreatDoorPkHaseav
import Derived.Test.YthkadboeokgjnabGreatDoorPkHaseax
section
set_option linter.unusedVariables false
set_option maxRecDepth 1000000
namespace Go.Proofs.YthkadboeokgjnabGreatDoor
open Go.RowKit

theorem EnvH.below {w w' : World} (h : EnvH w) (hb : Below w.heap.size w w') : EnvH w' := ⟨h.1.below hb (Nat.le_refl _), h.2.below hb (Nat.le_refl _)⟩
theorem parse_w (w : World) (x : Option Addr) (cx : Nat) (l : List UInt8) (hE : EnvH w) (hx : Bs w x cx l) (hl : l.length ≤ 281474976710656) :
    Calls Tryz.prog 16 #[.slice x l.length cx] w fun e w' => ∃ hp hc bp bc, e = .returned (.tuple #[.agg #[.string (str (pM l).1.m), .string (str (pM l).1.p), .slice hp (pM l).1.h.length hc, .slice bp (pM l).1.b.length bc], .int .i64 ((pM l).2.1 : Int), .int .i64 ((pM l).2.2 : Int)]) ∧ Hid (RqO w' w.heap.size (pM l).1 hp hc bp bc) ∧ Hid (Below w.heap.size w w') :=
  parse_any EnvH BH ek_envH RM readHead_any rok_RM w x cx l hE hE.le hx hl
def l29 : List UInt8 := [71, 69, 84, 32, 47, 97, 32, 72, 84, 84, 80, 47, 49, 46, 49, 13, 10, 72, 111, 115, 116, 58, 32, 97, 13, 10, 13, 10, 120]
def l19 : List UInt8 := [71, 69, 84, 32, 47, 97, 32, 72, 84, 84, 80, 47, 49, 46, 48, 13, 10, 13, 10]
set_option maxRecDepth 100000 in
theorem p29 : (pM l29).1.p = [47, 97] ∧ (pM l29).2.1 = 28 ∧ (pM l29).2.2 = 0 := by decide +kernel
set_option maxRecDepth 100000 in
theorem p19 : (pM l19).2.2 = 505 := by decide +kernel
theorem to_bw (l : List UInt8) (w : World) (hl : l.length ≤ 1000000) : ∃ V c, (convert 9 23 (.string (str l))).run Tryz.prog w = .ok (.slice (some ⟨w.heap.size, 0, none⟩) l.length c) V ∧ Below w.heap.size w V ∧ w.heap.size < V.heap.size ∧ Bs V (some ⟨w.heap.size, 0, none⟩) c l := by
  have hge := grownCap_ge w (str l).size 0 5
  have hle := grownCap_le_maxLen w (str l).size 0 5 (by rw [str_size]; unfold maxLen; omega)
  rw [str_size] at hge hle
  refine ⟨Lib.bytesWorld w 5 (str l), grownCap w (str l).size 0 5, ?_, ?_, ?_, ?_⟩
  · have := Lib.run_convert_string_bytes (P := Tryz.prog) w 9 23 5 (str l) Tryz.underlying9 Tryz.underlying23 Tryz.underlying5
    rw [this, str_size]
  · exact ⟨rfl, rfl, rfl, by rw [Lib.bytesWorld_size]; omega, fun k hk => Lib.bytesWorld_at_old w _ _ k hk⟩
  · rw [Lib.bytesWorld_size]; omega
  · rw [str_size]
    refine ⟨fun _ => ⟨w.heap.size, 0, rfl, fun i hi => ?_⟩, hge, hle, fun h => by cases h⟩
    rw [Nat.zero_add, Lib.bytesWorld_cell w _ (str l) i (by rw [str_size]; exact hi)]
    congr 2
theorem str_app (x y : List UInt8) : str x ++ str y = str (x ++ y) := by
  apply ByteArray.ext
  simp [str, ByteArray.data_append]
theorem bsc (w : World) (C : Array Value) (l : List UInt8) (hC : C.toList = bs l) (fz : Nat × Nat) (hl : l.length ≤ 1000000) : Bs (w.alloc (.cells C 5 fz)) (some ⟨w.heap.size, 0, none⟩) l.length l := by
  refine ⟨fun _ => ⟨w.heap.size, 0, rfl, fun i hi => ?_⟩, Nat.le_refl _, by unfold maxLen; omega, fun h => by cases h⟩
  rw [cell_of_row _ _ _ _ _ _ (heap_alloc_new w _), Nat.zero_add, ← Array.getElem?_toList, hC, bs_get l i hi]
set_option maxHeartbeats 4000000 in
theorem awake8_any (w : World) (hE : EnvH w) : Calls Tryz.prog 10 #[] w fun e w' => e = .returned (.bool true) ∧ Hid (Below w.heap.size w w') := by
  obtain ⟨V, c, hcv, hbV, hsV, hBs⟩ := to_bw l29 w (by decide)
  have kc := fun (w : World) (C : Array Value) (n c : Nat) => Lib.run_convert_bytes_const (P := Tryz.prog) w 23 5 C n c Tryz.underlying23 Tryz.underlying5
  have hcat : (⟨#[71, 69, 84, 32, 47, 97, 32, 72, 84, 84, 80, 47, 49, 46, 49, 13, 10, 72, 111, 115, 116, 58, 32, 97, 13, 10, 13, 10]⟩ : ByteArray) ++ (⟨#[120]⟩ : ByteArray) = str l29 := str_app [71, 69, 84, 32, 47, 97, 32, 72, 84, 84, 80, 47, 49, 46, 49, 13, 10, 72, 111, 115, 116, 58, 32, 97, 13, 10, 13, 10] [120]
  have HEV := hide (hE.below hbV)
  have HP := hide (parse_w V (some ⟨w.heap.size, 0, none⟩) c l29 (unhide HEV) hBs (by decide))
  have HBV := hide hbV
  obtain ⟨q1, q2, q3⟩ := p29
  have q4 := p19
  generalize pM l29 = P at HP q1 q2 q3
  obtain ⟨⟨pm, pp, ph, pb⟩, pn, ps⟩ := P
  simp only at q1 q2 q3 HP
  subst q1 q2 q3
  clear hBs hbV hE
  have hcv' : (convert 9 23 (.string (str l29))).run Tryz.prog w = .ok (.slice (some ⟨w.heap.size, 0, none⟩) 29 c) V := hcv
  clear hcv
  go_enter Tryz.func10, Tryz.ntmps10
  go_wp2_with fail
  refine (unhide HP).mono ?_
  rintro e W ⟨hp, hc, bp, bc, rfl, HR, HB⟩
  have HEW := hide ((unhide HEV).below (unhide HB))
  clear HP HR
  obtain ⟨U, hU⟩ : ∃ U, U = W.alloc (.cells #[.string (str pm), .string (str [47, 97]), .slice hp ph.length hc, .slice bp pb.length bc] 38) := ⟨_, rfl⟩
  have hUs : U.heap.size = W.heap.size + 1 := by rw [hU]; simp
  have hWU : Below W.heap.size W U := by rw [hU]; exact (Below.refl _ _).alloc (Nat.le_refl _) _
  obtain ⟨X, hX⟩ : ∃ X, X = U.alloc (.cells #[.int .u8 71, .int .u8 69, .int .u8 84, .int .u8 32, .int .u8 47, .int .u8 97, .int .u8 32, .int .u8 72, .int .u8 84, .int .u8 84, .int .u8 80, .int .u8 47, .int .u8 49, .int .u8 46, .int .u8 48, .int .u8 13, .int .u8 10, .int .u8 13, .int .u8 10] 5 (19, 20)) := ⟨_, rfl⟩
  have hUX : Below W.heap.size U X := by rw [hX]; exact (Below.refl _ _).alloc (by omega) _
  have hBx : Bs X (some ⟨W.heap.size + 1, 0, none⟩) 19 l19 := by rw [hX, ← hUs]; exact bsc U _ l19 rfl _ (by decide)
  have hWX : Below W.heap.size W X := hWU.trans hUX
  have hXs : X.heap.size = W.heap.size + 2 := by rw [hX]; simp [hUs]
  have hbU : U.heap[W.heap.size]? = some (.cells #[.string (str pm), .string (str [47, 97]), .slice hp ph.length hc, .slice bp pb.length bc] 38 (0, 0)) := by rw [hU]; exact heap_alloc_new W _
  have hbX : X.heap[W.heap.size]? = some (.cells #[.string (str pm), .string (str [47, 97]), .slice hp ph.length hc, .slice bp pb.length bc] 38 (0, 0)) := by rw [hX, Below.heap_alloc _ _ _ (by omega)]; exact hbU
  have HEX := hide ((unhide HEW).below hWX)
  have HP2 := hide (parse_w X (some ⟨W.heap.size + 1, 0, none⟩) 19 l19 (unhide HEX) hBx (by decide))
  have kc2 : (convert 23 23 (.slice (some ⟨W.heap.size + 1, 0, none⟩) 19 19)).run Tryz.prog ((W.alloc (.cells #[.string (str pm), .string (str [47, 97]), .slice hp ph.length hc, .slice bp pb.length bc] 38)).alloc (.cells #[.int .u8 71, .int .u8 69, .int .u8 84, .int .u8 32, .int .u8 47, .int .u8 97, .int .u8 32, .int .u8 72, .int .u8 84, .int .u8 84, .int .u8 80, .int .u8 47, .int .u8 49, .int .u8 46, .int .u8 48, .int .u8 13, .int .u8 10, .int .u8 13, .int .u8 10] 5)) = .ok (.slice (some ⟨W.heap.size + 1, 0, none⟩) 19 19) X := by
    have := kc U #[.int .u8 71, .int .u8 69, .int .u8 84, .int .u8 32, .int .u8 47, .int .u8 97, .int .u8 32, .int .u8 72, .int .u8 84, .int .u8 84, .int .u8 80, .int .u8 47, .int .u8 49, .int .u8 46, .int .u8 48, .int .u8 13, .int .u8 10, .int .u8 13, .int .u8 10] 19 19
    rw [hUs] at this
    rw [← hU, hX]
    exact this
  have HBX := hide (((unhide HBV).trans ((unhide HB).mono (by omega))).trans (hWX.mono (by have := (unhide HB).size; omega)))
  generalize pM l19 = P2 at HP2 q4
  obtain ⟨⟨m2, p2, h2, b2⟩, n2, s2⟩ := P2
  simp only at q4 HP2
  subst q4
  have hl2 : l19.length = 19 := rfl
  rw [hl2] at HP2
  clear hU hX hWU hUX hBx kc hbU
  have HLT := hide (show W.heap.size < X.heap.size by omega)
  clear hUs hXs hWX
  go_wp2_with fail
  refine (unhide HP2).mono ?_
  rintro e Y ⟨hp2, hc2, bp2, bc2, rfl, HR2, HB2⟩
  have hbY : Y.heap[W.heap.size]? = some (.cells #[.string (str pm), .string (str [47, 97]), .slice hp ph.length hc, .slice bp pb.length bc] 38 (0, 0)) := ((unhide HB2).block _ (unhide HLT)).trans hbX
  clear HP2 hbX
  have hltY : W.heap.size < Y.heap.size := Nat.lt_of_lt_of_le (unhide HLT) (unhide HB2).size
  have hcell : (Y.alloc (.cells #[.string (str m2), .string (str p2), .slice hp2 h2.length hc2, .slice bp2 b2.length bc2] 38)).cell? ⟨W.heap.size, 1, none⟩ = some (.string ⟨#[47, 97]⟩) := cell_of_row _ _ _ _ _ _ ((Below.heap_alloc Y _ _ hltY).trans hbY)
  clear hbY
  go_wp2_with fail
  go_ret
  exact ⟨rfl, hide (((unhide HBX).trans ((unhide HB2).mono (unhide HBX).size)).alloc (Nat.le_trans (unhide HBX).size (unhide HB2).size) _)⟩
end Go.Proofs.YthkadboeokgjnabGreatDoor
end
