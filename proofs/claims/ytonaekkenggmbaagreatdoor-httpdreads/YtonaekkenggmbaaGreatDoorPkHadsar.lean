/-
  httpd: what the statements lean on: awake.; httpd's reference: kinds of bytes, places in texts.; httpd's reference: which kind a byte is of; texts of one kind; small letters.; httpd's reference: small letters, trim, lines, values.
-/
import Derived.Test.YtonaekkenggmbaaGreatDoorPkHadsap
import Derived.Test.YtonaekkenggmbaaGreatDoorPkHadsaq
section
set_option linter.unusedVariables false
set_option maxRecDepth 1000000
namespace Go.Proofs.YtonaekkenggmbaaGreatDoor
open Go.RowKit

theorem EnvH.below {w w' : World} (h : EnvH w) (hb : Below w.heap.size w w') : EnvH w' := ⟨h.1.below hb (Nat.le_refl _), h.2.below hb (Nat.le_refl _)⟩
theorem parse_w (w : World) (x : Option Addr) (cx : Nat) (l : List UInt8) (hE : EnvH w) (hx : Bs w x cx l) (hl : l.length ≤ 281474976710656) :
    Calls Tryz.prog 41 #[.slice x l.length cx] w fun e w' => ∃ hp hc bp bc, e = .returned (.tuple #[.agg #[.string (str (pM l).1.m), .string (str (pM l).1.p), .slice hp (pM l).1.h.length hc, .slice bp (pM l).1.b.length bc], .int .i64 ((pM l).2.1 : Int), .int .i64 ((pM l).2.2 : Int)]) ∧ Hid (RqO w' w.heap.size (pM l).1 hp hc bp bc) ∧ Hid (Below w.heap.size w w') :=
  parse_any EnvH BH ek_envH RM readHead_any rok_RM w x cx l hE hE.le hx hl
def l29 : List UInt8 := [71, 69, 84, 32, 47, 97, 32, 72, 84, 84, 80, 47, 49, 46, 49, 13, 10, 72, 111, 115, 116, 58, 32, 97, 13, 10, 13, 10, 120]
def l19 : List UInt8 := [71, 69, 84, 32, 47, 97, 32, 72, 84, 84, 80, 47, 49, 46, 48, 13, 10, 13, 10]
set_option maxRecDepth 100000 in
theorem p29 : (pM l29).1.p = [47, 97] ∧ (pM l29).2.1 = 28 ∧ (pM l29).2.2 = 0 := by decide +kernel
set_option maxRecDepth 100000 in
theorem p19 : (pM l19).2.2 = 505 := by decide +kernel
theorem to_bw (l : List UInt8) (w : World) (hl : l.length ≤ 1000000) : ∃ V c, (convert 9 28 (.string (str l))).run Tryz.prog w = .ok (.slice (some ⟨w.heap.size, 0, none⟩) l.length c) V ∧ Below w.heap.size w V ∧ w.heap.size < V.heap.size ∧ Bs V (some ⟨w.heap.size, 0, none⟩) c l := by
  have hge := grownCap_ge w (str l).size 0 5
  have hle := grownCap_le_maxLen w (str l).size 0 5 (by rw [str_size]; unfold maxLen; omega)
  rw [str_size] at hge hle
  refine ⟨Lib.bytesWorld w 5 (str l), grownCap w (str l).size 0 5, ?_, ?_, ?_, ?_⟩
  · have := Lib.run_convert_string_bytes (P := Tryz.prog) w 9 28 5 (str l) Tryz.underlying9 Tryz.underlying28 Tryz.underlying5
    rw [this, str_size]
  · exact ⟨rfl, rfl, rfl, by rw [Lib.bytesWorld_size]; omega, fun k hk => Lib.bytesWorld_at_old w _ _ k hk⟩
  · rw [Lib.bytesWorld_size]; omega
  · rw [str_size]
    refine ⟨fun _ => ⟨w.heap.size, 0, rfl, fun i hi => ?_⟩, hge, hle, fun h => by cases h⟩
    rw [Nat.zero_add, Lib.bytesWorld_cell w _ (str l) i (by rw [str_size]; exact hi)]
    congr 2
theorem str_app (x y : List UInt8) : str x ++ str y = str (x ++ y) := by
  apply ByteArray.ext
  simp [str, ByteArray.data_append]
theorem bsc (w : World) (C : Array Value) (l : List UInt8) (hC : C.toList = bs l) (fz : Nat × Nat) (hl : l.length ≤ 1000000) : Bs (w.alloc (.cells C 5 fz)) (some ⟨w.heap.size, 0, none⟩) l.length l := by
  refine ⟨fun _ => ⟨w.heap.size, 0, rfl, fun i hi => ?_⟩, Nat.le_refl _, by unfold maxLen; omega, fun h => by cases h⟩
  rw [cell_of_row _ _ _ _ _ _ (heap_alloc_new w _), Nat.zero_add, ← Array.getElem?_toList, hC, bs_get l i hi]
set_option maxHeartbeats 4000000 in
theorem awake8_any (w : World) (hE : EnvH w) : Calls Tryz.prog 10 #[] w fun e w' => e = .returned (.bool true) ∧ Hid (Below w.heap.size w w') := by
  obtain ⟨V, c, hcv, hbV, hsV, hBs⟩ := to_bw l29 w (by decide)
  have kc := fun (w : World) (C : Array Value) (n c : Nat) => Lib.run_convert_bytes_const (P := Tryz.prog) w 28 5 C n c Tryz.underlying28 Tryz.underlying5
  have hcat : (⟨#[71, 69, 84, 32, 47, 97, 32, 72, 84, 84, 80, 47, 49, 46, 49, 13, 10, 72, 111, 115, 116, 58, 32, 97, 13, 10, 13, 10]⟩ : ByteArray) ++ (⟨#[120]⟩ : ByteArray) = str l29 := str_app [71, 69, 84, 32, 47, 97, 32, 72, 84, 84, 80, 47, 49, 46, 49, 13, 10, 72, 111, 115, 116, 58, 32, 97, 13, 10, 13, 10] [120]
  have HEV := hide (hE.below hbV)
  have HP := hide (parse_w V (some ⟨w.heap.size, 0, none⟩) c l29 (unhide HEV) hBs (by decide))
  have HBV := hide hbV
  obtain ⟨q1, q2, q3⟩ := p29
  have q4 := p19
  generalize pM l29 = P at HP q1 q2 q3
  obtain ⟨⟨pm, pp, ph, pb⟩, pn, ps⟩ := P
  simp only at q1 q2 q3 HP
  subst q1 q2 q3
  clear hBs hbV hE
  have hcv' : (convert 9 28 (.string (str l29))).run Tryz.prog w = .ok (.slice (some ⟨w.heap.size, 0, none⟩) 29 c) V := hcv
  clear hcv
  go_enter Tryz.func10, Tryz.ntmps10
  go_wp2_with fail
  refine (unhide HP).mono ?_
  rintro e W ⟨hp, hc, bp, bc, rfl, HR, HB⟩
  have HEW := hide ((unhide HEV).below (unhide HB))
  clear HP HR
  obtain ⟨U, hU⟩ : ∃ U, U = W.alloc (.cells #[.string (str pm), .string (str [47, 97]), .slice hp ph.length hc, .slice bp pb.length bc] 39) := ⟨_, rfl⟩
  have hUs : U.heap.size = W.heap.size + 1 := by rw [hU]; simp
  have hWU : Below W.heap.size W U := by rw [hU]; exact (Below.refl _ _).alloc (Nat.le_refl _) _
  obtain ⟨X, hX⟩ : ∃ X, X = U.alloc (.cells #[.int .u8 71, .int .u8 69, .int .u8 84, .int .u8 32, .int .u8 47, .int .u8 97, .int .u8 32, .int .u8 72, .int .u8 84, .int .u8 84, .int .u8 80, .int .u8 47, .int .u8 49, .int .u8 46, .int .u8 48, .int .u8 13, .int .u8 10, .int .u8 13, .int .u8 10] 5 (19, 20)) := ⟨_, rfl⟩
  have hUX : Below W.heap.size U X := by rw [hX]; exact (Below.refl _ _).alloc (by omega) _
  have hBx : Bs X (some ⟨W.heap.size + 1, 0, none⟩) 19 l19 := by rw [hX, ← hUs]; exact bsc U _ l19 rfl _ (by decide)
  have hWX : Below W.heap.size W X := hWU.trans hUX
  have hXs : X.heap.size = W.heap.size + 2 := by rw [hX]; simp [hUs]
  have hbU : U.heap[W.heap.size]? = some (.cells #[.string (str pm), .string (str [47, 97]), .slice hp ph.length hc, .slice bp pb.length bc] 39 (0, 0)) := by rw [hU]; exact heap_alloc_new W _
  have hbX : X.heap[W.heap.size]? = some (.cells #[.string (str pm), .string (str [47, 97]), .slice hp ph.length hc, .slice bp pb.length bc] 39 (0, 0)) := by rw [hX, Below.heap_alloc _ _ _ (by omega)]; exact hbU
  have HEX := hide ((unhide HEW).below hWX)
  have HP2 := hide (parse_w X (some ⟨W.heap.size + 1, 0, none⟩) 19 l19 (unhide HEX) hBx (by decide))
  have kc2 : (convert 28 28 (.slice (some ⟨W.heap.size + 1, 0, none⟩) 19 19)).run Tryz.prog ((W.alloc (.cells #[.string (str pm), .string (str [47, 97]), .slice hp ph.length hc, .slice bp pb.length bc] 39)).alloc (.cells #[.int .u8 71, .int .u8 69, .int .u8 84, .int .u8 32, .int .u8 47, .int .u8 97, .int .u8 32, .int .u8 72, .int .u8 84, .int .u8 84, .int .u8 80, .int .u8 47, .int .u8 49, .int .u8 46, .int .u8 48, .int .u8 13, .int .u8 10, .int .u8 13, .int .u8 10] 5)) = .ok (.slice (some ⟨W.heap.size + 1, 0, none⟩) 19 19) X := by
    have := kc U #[.int .u8 71, .int .u8 69, .int .u8 84, .int .u8 32, .int .u8 47, .int .u8 97, .int .u8 32, .int .u8 72, .int .u8 84, .int .u8 84, .int .u8 80, .int .u8 47, .int .u8 49, .int .u8 46, .int .u8 48, .int .u8 13, .int .u8 10, .int .u8 13, .int .u8 10] 19 19
    rw [hUs] at this
    rw [← hU, hX]
    exact this
  have HBX := hide (((unhide HBV).trans ((unhide HB).mono (by omega))).trans (hWX.mono (by have := (unhide HB).size; omega)))
  generalize pM l19 = P2 at HP2 q4
  obtain ⟨⟨m2, p2, h2, b2⟩, n2, s2⟩ := P2
  simp only at q4 HP2
  subst q4
  have hl2 : l19.length = 19 := rfl
  rw [hl2] at HP2
  clear hU hX hWU hUX hBx kc hbU
  have HLT := hide (show W.heap.size < X.heap.size by omega)
  clear hUs hXs hWX
  go_wp2_with fail
  refine (unhide HP2).mono ?_
  rintro e Y ⟨hp2, hc2, bp2, bc2, rfl, HR2, HB2⟩
  have hbY : Y.heap[W.heap.size]? = some (.cells #[.string (str pm), .string (str [47, 97]), .slice hp ph.length hc, .slice bp pb.length bc] 39 (0, 0)) := ((unhide HB2).block _ (unhide HLT)).trans hbX
  clear HP2 hbX
  have hltY : W.heap.size < Y.heap.size := Nat.lt_of_lt_of_le (unhide HLT) (unhide HB2).size
  have hcell : (Y.alloc (.cells #[.string (str m2), .string (str p2), .slice hp2 h2.length hc2, .slice bp2 b2.length bc2] 39)).cell? ⟨W.heap.size, 1, none⟩ = some (.string ⟨#[47, 97]⟩) := cell_of_row _ _ _ _ _ _ ((Below.heap_alloc Y _ _ hltY).trans hbY)
  clear hbY
  go_wp2_with fail
  go_ret
  exact ⟨rfl, hide (((unhide HBX).trans ((unhide HB2).mono (unhide HBX).size)).alloc (Nat.le_trans (unhide HBX).size (unhide HB2).size) _)⟩
end Go.Proofs.YtonaekkenggmbaaGreatDoor
end
section
set_option linter.unusedVariables false
set_option maxRecDepth 1000000
namespace Go.Proofs.YtonaekkenggmbaaGreatDoor
open Go.RowKit

theorem cut_to (s : List UInt8) (k : Nat) : (str s).extract 0 k = str (s.take k) := by
  have := ByteArray.extract_mk s 0 k
  simpa [str] using this
theorem pref_take (s f : List UInt8) : (s.take f.length == f) = f.isPrefixOf s := by
  rw [Bool.eq_iff_iff, List.isPrefixOf_iff_prefix]
  constructor
  · intro h
    rw [← eq_of_beq h]
    exact List.take_prefix _ _
  · rintro ⟨t, rfl⟩
    simp
set_option maxHeartbeats 1000000 in
theorem begins_any (s f : List UInt8) (w : World) (hs : s.length ≤ 140737488353280) (hf : f.length ≤ 140737488353280) :
    Calls Tryz.prog 79 #[.string (str s), .string (str f)] w fun e w' => e = .returned (.bool (f.isPrefixOf s)) ∧ w' = w := by
  have z1 : (str s).size = s.length := str_size s
  have z2 : (str f).size = f.length := str_size f
  have HP := hide (pref_take s f)
  generalize f.isPrefixOf s = ans at *
  by_cases h : f.length ≤ s.length
  · have h' : (f.length : Int) ≤ (s.length : Int) := by omega
    have e1 : ((str s).extract 0 f.length).toList = s.take f.length := by rw [cut_to, toList_str]
    have e2 : (str f).toList = f := toList_str f
    go_enter Tryz.func79, Tryz.ntmps79
    go_wp2
    go_ret
    exact ⟨by rw [← unhide HP]; rfl, rfl⟩
  · have h' : ¬ (f.length : Int) ≤ (s.length : Int) := by omega
    have hp : ans = false := by
      rw [← unhide HP, Bool.eq_false_iff]
      intro e
      have := congrArg List.length (eq_of_beq e)
      simp at this
      omega
    subst hp
    go_enter Tryz.func79, Tryz.ntmps79
    go_wp2
    go_ret
    exact ⟨rfl, rfl⟩
/-- The first place of a text; the other's length: none. -/
def whM (t s : List UInt8) : Nat := if 0 ≤ Lib.index s t then (Lib.index s t).toNat else s.length
theorem whM_le (t s : List UInt8) : whM t s ≤ s.length := by
  unfold whM
  split
  · have := Lib.index_room s t (by assumption)
    omega
  · omega
set_option maxHeartbeats 1000000 in
theorem where_any (t s : List UInt8) (w : World) (hs : s.length ≤ 140737488353280) (ht : t.length ≤ 140737488353280) (hne : t ≠ []) :
    Calls Tryz.prog 53 #[.string (str t), .string (str s)] w fun e w' => e = .returned (.int .i64 (whM t s : Int)) ∧ w' = w := by
  have z1 : (str s).size = s.length := str_size s
  obtain ⟨R, hR⟩ : ∃ R, R = whM t s := ⟨_, rfl⟩
  rw [← hR]
  have HR := hide hR
  clear hR
  go_enter Tryz.func53, Tryz.ntmps53
  go_wp2
  go_loopw [8] (fun i wr => ∃ k : Nat, k ≤ s.length ∧ i = .int .i64 (k : Int) ∧ Hid (Lib.NoOcc s t k) ∧ wr = w) (fun i _ => s.length - (intOf i).toNat)
  case atStart => exact ⟨0, Nat.zero_le _, rfl, Lib.NoOcc.zero s t, rfl⟩
  case round =>
    obtain ⟨k, hk, rfl, HN, rfl⟩ := hrel
    by_cases hlt : k < s.length
    · have hlt' : (k : Int) < (s.length : Int) := by omega
      have e1 : (str s).extract k s.length = str (s.drop k) := cut_from s k
      have HB := hide (begins_any (s.drop k) t wr (by simp; omega) ht)
      obtain ⟨o, ho⟩ : ∃ o, o = t.isPrefixOf (s.drop k) := ⟨_, rfl⟩
      rw [← ho] at HB
      have HO : Hid (Lib.occAt s t k = o) := by rw [ho]; rfl
      clear ho
      go_wp2_with fail
      refine (unhide HB).mono ?_
      rintro e wr ⟨rfl, rfl⟩
      clear HB
      cases o with
      | true =>
        have HF : Hid (R = k) := by
          show _ = _
          rw [unhide HR]
          unfold whM
          rw [Lib.index_hit (unhide HN) hk (unhide HO), if_pos (by omega)]
          simp
        go_wp2
        go_ret
        exact ⟨by rw [unhide HF]; rfl, rfl⟩
      | false =>
        have HN2 : Hid (Lib.NoOcc s t (k + 1)) := (unhide HN).succ (unhide HO)
        go_wp2
        go_roundw
        case rel => exact ⟨k + 1, by omega, by go_num, HN2, trivial⟩
        case measure => simp [intOf]; omega
    · obtain rfl : k = s.length := by omega
      have HF : Hid (R = s.length) := by
        show _ = _
        rw [unhide HR]
        unfold whM
        rw [Lib.index_past hne (unhide HN) (by have := List.length_pos_iff.2 hne; omega), if_neg (by omega)]
      clear hlt
      go_wp2
      go_ret
      exact ⟨by rw [unhide HF]; rfl, rfl⟩
set_option maxHeartbeats 1000000 in
theorem in_any (c a z : UInt8) (w : World) : Calls Tryz.prog 102 #[.int .u8 (c.toNat : Int), .int .u8 (a.toNat : Int), .int .u8 (z.toNat : Int)] w fun e w' => e = .returned (.bool (btw a.toNat z.toNat c)) ∧ w' = w := by
  by_cases h1 : a.toNat ≤ c.toNat
  · have h1' : (a.toNat : Int) ≤ (c.toNat : Int) := by omega
    have HB : Hid (btw a.toNat z.toNat c = decide (c.toNat ≤ z.toNat)) := by show _ = _; unfold btw; simp [h1]
    generalize btw a.toNat z.toNat c = ans at *
    go_enter Tryz.func102, Tryz.ntmps102
    go_wp2
    go_ret
    exact ⟨by rw [unhide HB]; rfl, rfl⟩
  · have h1' : ¬ (a.toNat : Int) ≤ (c.toNat : Int) := by omega
    have HB : Hid (btw a.toNat z.toNat c = false) := by show _ = _; unfold btw; simp [h1]
    generalize btw a.toNat z.toNat c = ans at *
    go_enter Tryz.func102, Tryz.ntmps102
    go_wp2
    go_ret
    exact ⟨by rw [unhide HB]; rfl, rfl⟩
theorem wh_one (c : UInt8) : ∀ s : List UInt8, (whM [c] s < s.length) ↔ c ∈ s := by
  intro s
  unfold whM
  rcases Lib.index_spec s [c] with ⟨e, hno⟩ | ⟨i, e, hi, ho, hn⟩
  · rw [e, if_neg (by omega)]
    constructor
    · intro h; omega
    · intro h
      obtain ⟨j, hj, hc⟩ := List.getElem_of_mem h
      have h2 := hno j (by omega)
      have : Lib.occAt s [c] j = true := by
        unfold Lib.occAt
        rw [List.drop_eq_getElem_cons hj, hc]
        simp
      rw [this] at h2
      cases h2
  · rw [e, if_pos (by omega)]
    have hx := Lib.occAt_head rfl ho
    have hl := (List.getElem?_eq_some_iff.1 hx).1
    constructor
    · intro _; exact List.mem_of_getElem? hx
    · intro _; simpa using hl
set_option maxHeartbeats 1000000 in
theorem of_any (c : UInt8) (s : List UInt8) (w : World) (hs : s.length ≤ 140737488353280) : Calls Tryz.prog 73 #[.int .u8 (c.toNat : Int), .string (str s)] w fun e w' => e = .returned (.bool (s.contains c)) ∧ Hid (Below w.heap.size w w') := by
  have z1 : (str s).size = s.length := str_size s
  obtain ⟨V, hV⟩ : ∃ V, V = w.alloc (.cells #[.int .u8 (c.toNat : Int)] 5) := ⟨_, rfl⟩
  have HBV : Hid (Below w.heap.size w V) := by rw [hV]; exact (Below.refl _ _).alloc (Nat.le_refl _) _
  have hbs : Bs V (some ⟨w.heap.size, 0, none⟩) 1 [c] := by rw [hV]; exact bsc w _ [c] rfl (0, 0) (by simp)
  have kc : (convert 28 9 (.slice (some ⟨w.heap.size, 0, none⟩) 1 1)).run Tryz.prog V = .ok (.string (str [c])) V := run_str _ _ _ _ _ hbs.row rfl
  have HW := hide (where_any [c] s V hs (by simp) (by simp))
  have HC : Hid (s.contains c = decide (whM [c] s < s.length)) := by
    show _ = _
    rw [Bool.eq_iff_iff]
    simp [wh_one c s]
  rw [hV] at kc HW
  have HVE := hide hV
  generalize s.contains c = ans at *
  generalize whM [c] s = R at *
  clear hbs hV
  go_enter Tryz.func73, Tryz.ntmps73
  go_wp2_with fail
  refine (unhide HW).mono ?_
  rintro e w' ⟨rfl, hw'⟩
  subst hw'
  clear HW
  go_wp2
  go_ret
  refine ⟨by rw [unhide HC]; simp, ?_⟩
  rw [← unhide HVE]
  exact HBV
#print axioms of_any
end Go.Proofs.YtonaekkenggmbaaGreatDoor
end
section
set_option linter.unusedVariables false
set_option maxRecDepth 1000000
namespace Go.Proofs.YtonaekkenggmbaaGreatDoor
open Go.RowKit

def isM (k : Nat) (c : UInt8) : Bool :=
  if k = 1 then btw 48 57 c else if k = 2 then btw 65 90 c else if k = 3 then btw 33 126 c
  else if k = 4 then (btw 48 57 c || (btw 65 90 c || (btw 97 122 c || marks.contains c)))
  else if k = 5 then (decide (c.toNat = 32) || decide (c.toNat = 9)) else if k = 6 then (btw 32 126 c || decide (c.toNat = 9)) else !decide (c.toNat = 32)
set_option maxHeartbeats 1000000 in
theorem is1_any (c : UInt8) (w : World) : Calls Tryz.prog 77 #[.int .u8 (c.toNat : Int), .int .i64 1] w fun e w' => e = .returned (.bool (isM 1 c)) ∧ Hid (Below w.heap.size w w') := by
  have HC : Hid (Calls Tryz.prog 102 #[.int .u8 (c.toNat : Int), .int .u8 48, .int .u8 57] w fun e w' => e = .returned (.bool (isM 1 c)) ∧ w' = w) := in_any c 48 57 w
  go_enter Tryz.func77, Tryz.ntmps77
  go_wp2_with fail
  refine (unhide HC).mono ?_
  rintro e w ⟨rfl, rfl⟩
  go_wp2
  go_ret
  exact ⟨rfl, Below.refl _ _⟩
set_option maxHeartbeats 1000000 in
theorem is2_any (c : UInt8) (w : World) : Calls Tryz.prog 77 #[.int .u8 (c.toNat : Int), .int .i64 2] w fun e w' => e = .returned (.bool (isM 2 c)) ∧ Hid (Below w.heap.size w w') := by
  have HC : Hid (Calls Tryz.prog 102 #[.int .u8 (c.toNat : Int), .int .u8 65, .int .u8 90] w fun e w' => e = .returned (.bool (isM 2 c)) ∧ w' = w) := in_any c 65 90 w
  go_enter Tryz.func77, Tryz.ntmps77
  go_wp2_with fail
  refine (unhide HC).mono ?_
  rintro e w ⟨rfl, rfl⟩
  go_wp2
  go_ret
  exact ⟨rfl, Below.refl _ _⟩
set_option maxHeartbeats 1000000 in
theorem is3_any (c : UInt8) (w : World) : Calls Tryz.prog 77 #[.int .u8 (c.toNat : Int), .int .i64 3] w fun e w' => e = .returned (.bool (isM 3 c)) ∧ Hid (Below w.heap.size w w') := by
  have HC : Hid (Calls Tryz.prog 102 #[.int .u8 (c.toNat : Int), .int .u8 33, .int .u8 126] w fun e w' => e = .returned (.bool (isM 3 c)) ∧ w' = w) := in_any c 33 126 w
  go_enter Tryz.func77, Tryz.ntmps77
  go_wp2_with fail
  refine (unhide HC).mono ?_
  rintro e w ⟨rfl, rfl⟩
  go_wp2
  go_ret
  exact ⟨rfl, Below.refl _ _⟩
set_option maxHeartbeats 1000000 in
theorem is4_any (c : UInt8) (w : World) : Calls Tryz.prog 77 #[.int .u8 (c.toNat : Int), .int .i64 4] w fun e w' => e = .returned (.bool (isM 4 c)) ∧ Hid (Below w.heap.size w w') := by
  have H1 : Hid (∀ w, Calls Tryz.prog 102 #[.int .u8 (c.toNat : Int), .int .u8 48, .int .u8 57] w fun e w' => e = .returned (.bool (btw 48 57 c)) ∧ w' = w) := in_any c 48 57
  have H2 : Hid (∀ w, Calls Tryz.prog 102 #[.int .u8 (c.toNat : Int), .int .u8 65, .int .u8 90] w fun e w' => e = .returned (.bool (btw 65 90 c)) ∧ w' = w) := in_any c 65 90
  have H3 : Hid (∀ w, Calls Tryz.prog 102 #[.int .u8 (c.toNat : Int), .int .u8 97, .int .u8 122] w fun e w' => e = .returned (.bool (btw 97 122 c)) ∧ w' = w) := in_any c 97 122
  have H4 : Hid (Calls Tryz.prog 73 #[.int .u8 (c.toNat : Int), .string ⟨#[33, 35, 36, 37, 38, 39, 42, 43, 45, 46, 94, 95, 96, 124, 126]⟩] w fun e w' => e = .returned (.bool (marks.contains c)) ∧ Hid (Below w.heap.size w w')) := of_any c marks w (by decide)
  have HI : Hid (isM 4 c = (btw 48 57 c || (btw 65 90 c || (btw 97 122 c || marks.contains c)))) := rfl
  generalize isM 4 c = ans at *
  generalize btw 48 57 c = b1 at *
  generalize btw 65 90 c = b2 at *
  generalize btw 97 122 c = b3 at *
  generalize marks.contains c = b4 at *
  go_enter Tryz.func77, Tryz.ntmps77
  go_wp2_with fail
  refine (unhide H1 _).mono ?_
  rintro e w ⟨rfl, rfl⟩
  cases b1 with
  | true =>
    go_wp2
    go_ret
    exact ⟨by rw [unhide HI]; rfl, Below.refl _ _⟩
  | false =>
    go_wp2_with fail
    refine (unhide H2 _).mono ?_
    rintro e w ⟨rfl, rfl⟩
    cases b2 with
    | true =>
      go_wp2
      go_ret
      exact ⟨by rw [unhide HI]; rfl, Below.refl _ _⟩
    | false =>
      go_wp2_with fail
      refine (unhide H3 _).mono ?_
      rintro e w ⟨rfl, rfl⟩
      cases b3 with
      | true =>
        go_wp2
        go_ret
        exact ⟨by rw [unhide HI]; rfl, Below.refl _ _⟩
      | false =>
        go_wp2_with fail
        refine (unhide H4).mono ?_
        rintro e w' ⟨rfl, HB⟩
        go_wp2
        go_ret
        exact ⟨by rw [unhide HI]; cases b4 <;> rfl, HB⟩
set_option maxHeartbeats 1000000 in
theorem is5_any (c : UInt8) (w : World) : Calls Tryz.prog 77 #[.int .u8 (c.toNat : Int), .int .i64 5] w fun e w' => e = .returned (.bool (isM 5 c)) ∧ Hid (Below w.heap.size w w') := by
  have HI : Hid (isM 5 c = (decide (c.toNat = 32) || decide (c.toNat = 9))) := rfl
  generalize isM 5 c = ans at *
  by_cases h1 : c.toNat = 32
  · have e1 : ((c.toNat : Int) == 32) = true := by rw [beq_iff_eq]; omega
    rw [decide_eq_true h1] at HI
    clear h1
    go_enter Tryz.func77, Tryz.ntmps77
    go_wp2
    go_ret
    exact ⟨by rw [unhide HI]; rfl, Below.refl _ _⟩
  · have e1 : ((c.toNat : Int) == 32) = false := by rw [beq_eq_false_iff_ne]; omega
    rw [decide_eq_false h1] at HI
    clear h1
    by_cases h2 : c.toNat = 9
    · have e2 : ((c.toNat : Int) == 9) = true := by rw [beq_iff_eq]; omega
      rw [decide_eq_true h2] at HI
      clear h2
      go_enter Tryz.func77, Tryz.ntmps77
      go_wp2
      go_ret
      exact ⟨by rw [unhide HI]; rfl, Below.refl _ _⟩
    · have e2 : ((c.toNat : Int) == 9) = false := by rw [beq_eq_false_iff_ne]; omega
      rw [decide_eq_false h2] at HI
      clear h2
      go_enter Tryz.func77, Tryz.ntmps77
      go_wp2
      go_ret
      exact ⟨by rw [unhide HI]; rfl, Below.refl _ _⟩
set_option maxHeartbeats 1000000 in
theorem is6_any (c : UInt8) (w : World) : Calls Tryz.prog 77 #[.int .u8 (c.toNat : Int), .int .i64 6] w fun e w' => e = .returned (.bool (isM 6 c)) ∧ Hid (Below w.heap.size w w') := by
  have HC : Hid (Calls Tryz.prog 102 #[.int .u8 (c.toNat : Int), .int .u8 32, .int .u8 126] w fun e w' => e = .returned (.bool (btw 32 126 c)) ∧ w' = w) := in_any c 32 126 w
  have HI : Hid (isM 6 c = (btw 32 126 c || decide (c.toNat = 9))) := rfl
  generalize isM 6 c = ans at *
  generalize btw 32 126 c = b1 at *
  by_cases h2 : c.toNat = 9
  · have e2 : ((c.toNat : Int) == 9) = true := by rw [beq_iff_eq]; omega
    rw [decide_eq_true h2] at HI
    clear h2
    go_enter Tryz.func77, Tryz.ntmps77
    go_wp2_with fail
    refine (unhide HC).mono ?_
    rintro e w ⟨rfl, rfl⟩
    cases b1 with
    | true =>
      go_wp2
      go_ret
      exact ⟨by rw [unhide HI]; rfl, Below.refl _ _⟩
    | false =>
      go_wp2
      go_ret
      exact ⟨by rw [unhide HI]; rfl, Below.refl _ _⟩
  · have e2 : ((c.toNat : Int) == 9) = false := by rw [beq_eq_false_iff_ne]; omega
    rw [decide_eq_false h2] at HI
    clear h2
    go_enter Tryz.func77, Tryz.ntmps77
    go_wp2_with fail
    refine (unhide HC).mono ?_
    rintro e w ⟨rfl, rfl⟩
    cases b1 with
    | true =>
      go_wp2
      go_ret
      exact ⟨by rw [unhide HI]; rfl, Below.refl _ _⟩
    | false =>
      go_wp2
      go_ret
      exact ⟨by rw [unhide HI]; rfl, Below.refl _ _⟩
set_option maxHeartbeats 1000000 in
theorem is7_any (c : UInt8) (w : World) : Calls Tryz.prog 77 #[.int .u8 (c.toNat : Int), .int .i64 7] w fun e w' => e = .returned (.bool (isM 7 c)) ∧ Hid (Below w.heap.size w w') := by
  have HI : Hid (isM 7 c = !decide (c.toNat = 32)) := rfl
  generalize isM 7 c = ans at *
  by_cases h2 : c.toNat = 32
  · have e2 : ((c.toNat : Int) != 32) = false := by rw [bne_eq_false_iff_eq]; omega
    rw [decide_eq_true h2] at HI
    clear h2
    go_enter Tryz.func77, Tryz.ntmps77
    go_wp2
    go_ret
    exact ⟨by rw [unhide HI]; rfl, Below.refl _ _⟩
  · have e2 : ((c.toNat : Int) != 32) = true := by rw [bne_iff_ne]; omega
    rw [decide_eq_false h2] at HI
    clear h2
    go_enter Tryz.func77, Tryz.ntmps77
    go_wp2
    go_ret
    exact ⟨by rw [unhide HI]; rfl, Below.refl _ _⟩
theorem is_any (k : Nat) (hk : 1 ≤ k ∧ k ≤ 7) (c : UInt8) (w : World) : Calls Tryz.prog 77 #[.int .u8 (c.toNat : Int), .int .i64 (k : Int)] w fun e w' => e = .returned (.bool (isM k c)) ∧ Hid (Below w.heap.size w w') := by
  match k, hk with
  | 1, _ => exact is1_any c w
  | 2, _ => exact is2_any c w
  | 3, _ => exact is3_any c w
  | 4, _ => exact is4_any c w
  | 5, _ => exact is5_any c w
  | 6, _ => exact is6_any c w
  | 7, _ => exact is7_any c w
  | 0, h => omega
  | n + 8, h => omega
/-- How many bytes of a kind a text begins with. -/
def etM (k : Nat) (s : List UInt8) : Nat := (s.takeWhile (isM k)).length
theorem etM_le (k : Nat) (s : List UInt8) : etM k s ≤ s.length := List.IsPrefix.length_le (List.takeWhile_prefix _)
theorem tw_len (p : UInt8 → Bool) : ∀ (s : List UInt8) (n : Nat), (s.take n).all p = true → n ≤ s.length → (∀ x, s[n]? = some x → p x = false) → (s.takeWhile p).length = n
  | [], n, _, hn, _ => by simp at hn; simp [hn]
  | c :: l, 0, _, _, h => by
    have := h c rfl
    rw [List.takeWhile_cons_of_neg (by simp [this])]
    rfl
  | c :: l, n + 1, ha, hn, h => by
    simp only [List.take_succ_cons, List.all_cons, Bool.and_eq_true] at ha
    rw [List.takeWhile_cons_of_pos ha.1, List.length_cons, tw_len p l n ha.2 (by simpa using hn) (fun x hx => h x (by simpa using hx))]
set_option maxHeartbeats 1000000 in
theorem eat_any (s : List UInt8) (kd : Nat) (hkd : 1 ≤ kd ∧ kd ≤ 7) (w : World) (hs : s.length ≤ 1000000) :
    Calls Tryz.prog 86 #[.string (str s), .int .i64 (kd : Int)] w fun e w' => e = .returned (.int .i64 (etM kd s : Int)) ∧ Hid (Below w.heap.size w w') := by
  have z1 : (str s).size = s.length := str_size s
  obtain ⟨R, hR⟩ : ∃ R, R = etM kd s := ⟨_, rfl⟩
  rw [← hR]
  have HR := hide hR
  clear hR
  obtain ⟨K, hK⟩ : ∃ K : Int, K = (kd : Int) := ⟨_, rfl⟩
  have HIS : Hid (∀ c w, Calls Tryz.prog 77 #[.int .u8 (c.toNat : Int), .int .i64 K] w fun e w' => e = .returned (.bool (isM kd c)) ∧ Hid (Below w.heap.size w w')) := fun c w => by rw [hK]; exact is_any kd hkd c w
  rw [← hK]
  clear hK hkd
  go_enter Tryz.func86, Tryz.ntmps86
  go_wp2
  go_loopw [5] (fun i wr => ∃ k : Nat, k ≤ s.length ∧ i = .int .i64 (k : Int) ∧ Hid ((s.take k).all (isM kd) = true) ∧ Hid (Below w.heap.size w wr)) (fun i _ => s.length - (intOf i).toNat)
  case atStart => exact ⟨0, Nat.zero_le _, rfl, rfl, Below.refl _ _⟩
  case round =>
    obtain ⟨k, hk, rfl, HA, HB⟩ := hrel
    by_cases hlt : k < s.length
    · have hlt' : (k : Int) < (s.length : Int) := by omega
      obtain ⟨c, hc⟩ : ∃ c, s.getD k 0 = c := ⟨_, rfl⟩
      have hix : ∀ w, (Instr.index 9 (.string (str s)) (.int .i64 (k : Int))).run Tryz.prog w = .ok (.int .u8 (c.toNat : Int)) w := fun w => by rw [← hc]; exact run_ixs w s k hlt
      have hlk : s[k] = c := by rw [← hc, List.getD_eq_getElem?_getD, List.getElem?_eq_getElem hlt]; rfl
      have HLK : Hid (s[k]? = some c) := by show _ = _; rw [List.getElem?_eq_getElem hlt, hlk]
      have HC := hide (unhide HIS c wr)
      clear hc hlk
      cases hp : isM kd c with
      | true =>
        have HA2 : Hid ((s.take (k + 1)).all (isM kd) = true) := by
          show _ = _
          rw [List.take_add_one, unhide HLK, List.all_append, unhide HA]
          simp [hp]
        rw [hp] at HC
        clear hp
        go_wp2_with fail
        refine (unhide HC).mono ?_
        rintro e w2 ⟨rfl, HB2⟩
        go_wp2
        go_roundw
        case rel => exact ⟨k + 1, by omega, by go_num, HA2, hide ((unhide HB).trans ((unhide HB2).mono (unhide HB).size))⟩
        case measure => simp [intOf]; omega
      | false =>
        have HF : Hid (R = k) := by
          show _ = _
          rw [unhide HR]
          exact tw_len _ s k (unhide HA) hk (fun x hx => by rw [unhide HLK] at hx; cases hx; exact hp)
        rw [hp] at HC
        clear hp
        go_wp2_with fail
        refine (unhide HC).mono ?_
        rintro e w2 ⟨rfl, HB2⟩
        go_wp2
        go_ret
        exact ⟨by rw [unhide HF]; rfl, hide ((unhide HB).trans ((unhide HB2).mono (unhide HB).size))⟩
    · obtain rfl : k = s.length := by omega
      have HF : Hid (R = s.length) := by
        show _ = _
        rw [unhide HR]
        exact tw_len _ s _ (unhide HA) (Nat.le_refl _) (fun x hx => by rw [List.getElem?_eq_none (Nat.le_refl _)] at hx; cases hx)
      have hlt' : ¬ (s.length : Int) < (s.length : Int) := by omega
      clear hlt
      go_wp2
      go_ret
      exact ⟨by rw [unhide HF]; rfl, HB⟩
theorem etM_all (k : Nat) (s : List UInt8) : etM k s = s.length ↔ s.all (isM k) = true := by
  constructor
  · intro h
    have hp := List.takeWhile_prefix (isM k) (l := s)
    have := hp.eq_of_length h
    rw [← this, List.all_takeWhile]
  · intro h
    exact tw_len _ s _ (by rw [List.take_length]; exact h) (Nat.le_refl _) (fun x hx => by rw [List.getElem?_eq_none (Nat.le_refl _)] at hx; cases hx)
/-- A text of so many bytes of a kind. -/
def alM (s : List UInt8) (a b k : Nat) : Bool := s.all (isM k) && (decide (a ≤ s.length) && decide (s.length ≤ b))
set_option maxHeartbeats 1000000 in
theorem all8_any (s : List UInt8) (a b kd : Nat) (hkd : 1 ≤ kd ∧ kd ≤ 7) (w : World) (hs : s.length ≤ 1000000) (ha : a ≤ 1000000) (hb : b ≤ 1000000) :
    Calls Tryz.prog 80 #[.string (str s), .int .i64 (a : Int), .int .i64 (b : Int), .int .i64 (kd : Int)] w fun e w' => e = .returned (.bool (alM s a b kd)) ∧ Hid (Below w.heap.size w w') := by
  have z1 : (str s).size = s.length := str_size s
  have HE := hide (eat_any s kd hkd w hs)
  have HI : Hid (alM s a b kd = (decide (etM kd s = s.length) && (decide (a ≤ s.length) && decide (s.length ≤ b)))) := by
    show _ = _
    unfold alM
    congr 1
    rw [Bool.eq_iff_iff]
    simp only [decide_eq_true_eq]
    exact (etM_all kd s).symm
  generalize alM s a b kd = ans at *
  generalize etM kd s = E at *
  generalize (kd : Int) = K at *
  clear hkd
  by_cases h1 : E = s.length
  · have e1 : ((E : Int) == (s.length : Int)) = true := by rw [beq_iff_eq]; omega
    rw [decide_eq_true h1] at HI
    clear h1
    by_cases h2 : a ≤ s.length
    · have e2 : (a : Int) ≤ (s.length : Int) := by omega
      rw [decide_eq_true h2] at HI
      clear h2
      go_enter Tryz.func80, Tryz.ntmps80
      go_wp2_with fail
      refine (unhide HE).mono ?_
      rintro e w2 ⟨rfl, HB2⟩
      go_wp2
      go_ret
      exact ⟨by rw [unhide HI]; simp, HB2⟩
    · have e2 : ¬ (a : Int) ≤ (s.length : Int) := by omega
      rw [decide_eq_false h2] at HI
      clear h2
      go_enter Tryz.func80, Tryz.ntmps80
      go_wp2_with fail
      refine (unhide HE).mono ?_
      rintro e w2 ⟨rfl, HB2⟩
      go_wp2
      go_ret
      exact ⟨by rw [unhide HI]; simp, HB2⟩
  · have e1 : ((E : Int) == (s.length : Int)) = false := by rw [beq_eq_false_iff_ne]; omega
    rw [decide_eq_false h1] at HI
    clear h1
    go_enter Tryz.func80, Tryz.ntmps80
    go_wp2_with fail
    refine (unhide HE).mono ?_
    rintro e w2 ⟨rfl, HB2⟩
    go_wp2
    go_ret
    exact ⟨by rw [unhide HI]; simp, HB2⟩
#print axioms all8_any
end Go.Proofs.YtonaekkenggmbaaGreatDoor
end
section
set_option linter.unusedVariables false
set_option maxRecDepth 1000000
namespace Go.Proofs.YtonaekkenggmbaaGreatDoor
open Go.RowKit

theorem low2 (c : UInt8) (h : isM 2 c = true) : ((lowB c).toNat : Int) = (c.toNat : Int) + 32 ∧ c.toNat ≤ 90 := by
  have hb : 65 ≤ c.toNat ∧ c.toNat ≤ 90 := by simpa [isM, btw] using h
  unfold lowB
  rw [if_pos hb, UInt8.toNat_add]
  have : (32 : UInt8).toNat = 32 := rfl
  omega
theorem low0 (c : UInt8) (h : isM 2 c = false) : lowB c = c := by
  have hb : ¬ (65 ≤ c.toNat ∧ c.toNat ≤ 90) := by
    intro hn
    have : isM 2 c = true := by simpa [isM, btw] using hn
    rw [this] at h
    cases h
  unfold lowB
  rw [if_neg hb]
theorem sm_snoc (s : List UInt8) (k : Nat) (c : UInt8) (h : s[k]? = some c) : sm (s.take (k + 1)) = sm (s.take k) ++ [lowB c] := by
  rw [List.take_add_one, h]
  simp [sm]
set_option maxHeartbeats 1000000 in
theorem rsmall8 (s : List UInt8) (w : World) (hs : s.length ≤ 1000000) :
    Calls Tryz.prog 49 #[.string (str s)] w fun e w' => e = .returned (.string (str (sm s))) ∧ Hid (Below w.heap.size w w') := by
  have z1 : (str s).size = s.length := str_size s
  go_enter Tryz.func49, Tryz.ntmps49
  go_wp2
  go_loopw [3, 8] (fun v i wr => ∃ (k : Nat) (o : List UInt8), k ≤ s.length ∧ v = .string (str o) ∧ i = .int .i64 (k : Int) ∧ Hid (o = sm (s.take k)) ∧ o.length ≤ 1000000 ∧ Hid (Below w.heap.size w wr)) (fun _ i _ => s.length - (intOf i).toNat)
  case atStart => exact ⟨0, [], Nat.zero_le _, rfl, rfl, rfl, by simp, Below.refl _ _⟩
  case round =>
    obtain ⟨k, o, hk, rfl, rfl, HO, hol, HB⟩ := hrel
    by_cases hlt : k < s.length
    · have hlt' : (k : Int) < (s.length : Int) := by omega
      obtain ⟨c, hc⟩ : ∃ c, s.getD k 0 = c := ⟨_, rfl⟩
      have hix : ∀ w, (Instr.index 9 (.string (str s)) (.int .i64 (k : Int))).run Tryz.prog w = .ok (.int .u8 (c.toNat : Int)) w := fun w => by rw [← hc]; exact run_ixs w s k hlt
      have HLK : Hid (s[k]? = some c) := by show _ = _; rw [List.getElem?_eq_getElem hlt, ← hc, List.getD_eq_getElem?_getD, List.getElem?_eq_getElem hlt]; rfl
      have HI := hide (is2_any c wr)
      clear hc
      obtain ⟨x, hx⟩ : ∃ x, x = lowB c := ⟨_, rfl⟩
      have HO2 : Hid (o ++ [x] = sm (s.take (k + 1))) := by show _ = _; rw [sm_snoc s k c (unhide HLK), unhide HO, hx]
      have hol2 : (o ++ [x]).length ≤ 1000000 := by
        rw [unhide HO2]; simp [sm]; omega
      have hcat : str o ++ str [x] = str (o ++ [x]) := str_app o [x]
      have zo : (str o).size = o.length := str_size o
      have zx : (str [x]).size = 1 := str_size [x]
      cases hp : isM 2 c with
      | true =>
        obtain ⟨h32, h90⟩ := low2 c hp
        rw [← hx] at h32
        rw [hp] at HI
        clear hp hx
        go_wp2_with fail
        refine (unhide HI).mono ?_
        rintro e w1 ⟨rfl, HB1⟩
        clear HI
        have kc : (convert 28 9 (.slice (some ⟨w1.heap.size, 0, none⟩) 1 1)).run Tryz.prog (w1.alloc (.cells #[.int .u8 ((c.toNat : Int) + 32)] 5)) = .ok (.string (str [x])) (w1.alloc (.cells #[.int .u8 ((c.toNat : Int) + 32)] 5)) := by
          rw [← h32]
          exact run_str _ _ _ _ _ (bsc w1 _ [x] rfl (0, 0) (by simp)).row rfl
        have HB2 : Hid (Below w.heap.size w (w1.alloc (.cells #[.int .u8 ((c.toNat : Int) + 32)] 5))) := ((unhide HB).trans ((unhide HB1).mono (unhide HB).size)).alloc (Nat.le_trans (unhide HB).size (unhide HB1).size) _
        go_wp2
        go_roundw
        case rel => exact ⟨k + 1, o ++ [x], by omega, rfl, by go_num, HO2, hol2, HB2⟩
        case measure => simp [intOf]; omega
      | false =>
        have hxc : x = c := by rw [hx]; exact low0 c hp
        subst hxc
        rw [hp] at HI
        clear hp hx
        go_wp2_with fail
        refine (unhide HI).mono ?_
        rintro e w1 ⟨rfl, HB1⟩
        clear HI
        have kc : (convert 28 9 (.slice (some ⟨w1.heap.size, 0, none⟩) 1 1)).run Tryz.prog (w1.alloc (.cells #[.int .u8 (x.toNat : Int)] 5)) = .ok (.string (str [x])) (w1.alloc (.cells #[.int .u8 (x.toNat : Int)] 5)) := run_str _ _ _ _ _ (bsc w1 _ [x] rfl (0, 0) (by simp)).row rfl
        have HB2 : Hid (Below w.heap.size w (w1.alloc (.cells #[.int .u8 (x.toNat : Int)] 5))) := ((unhide HB).trans ((unhide HB1).mono (unhide HB).size)).alloc (Nat.le_trans (unhide HB).size (unhide HB1).size) _
        go_wp2
        go_roundw
        case rel => exact ⟨k + 1, o ++ [x], by omega, rfl, by go_num, HO2, hol2, HB2⟩
        case measure => simp [intOf]; omega
    · obtain rfl : k = s.length := by omega
      have HF : Hid (o = sm s) := by have := unhide HO; rw [List.take_length] at this; exact this
      clear hlt
      go_wp2
      go_ret
      exact ⟨by rw [← unhide HF]; rfl, HB⟩
/-- The end behind the last byte that is no blank. -/
def lnb (s : List UInt8) : Nat := (s.reverse.dropWhile (isM 5)).length
theorem lnb_snoc (s : List UInt8) (c : UInt8) : lnb (s ++ [c]) = if isM 5 c = true then lnb s else s.length + 1 := by
  unfold lnb
  rw [List.reverse_append]
  simp only [List.reverse_cons, List.reverse_nil, List.nil_append, List.singleton_append, List.dropWhile_cons]
  split
  · rfl
  · simp
theorem lnb_le (s : List UInt8) : lnb s ≤ s.length := by
  unfold lnb
  have := (List.dropWhile_suffix (isM 5) (l := s.reverse)).length_le
  simpa using this
theorem is5 (c : UInt8) : isM 5 c = ([32, 9] : List UInt8).contains c := by
  have h1 : isM 5 c = (decide (c.toNat = 32) || decide (c.toNat = 9)) := rfl
  have h2 : (c == (32 : UInt8)) = decide (c.toNat = 32) := by
    rw [Bool.eq_iff_iff]; simp only [beq_iff_eq, decide_eq_true_eq]
    exact ⟨fun e => by rw [e]; rfl, fun e => UInt8.toNat_inj.1 e⟩
  have h3 : (c == (9 : UInt8)) = decide (c.toNat = 9) := by
    rw [Bool.eq_iff_iff]; simp only [beq_iff_eq, decide_eq_true_eq]
    exact ⟨fun e => by rw [e]; rfl, fun e => UInt8.toNat_inj.1 e⟩
  rw [h1]
  simp only [List.contains_cons, List.contains_nil, h2, h3, Bool.or_false]
theorem take_lnb (s : List UInt8) : s.take (lnb s) = (s.reverse.dropWhile (isM 5)).reverse := by
  obtain ⟨t, ht⟩ := List.dropWhile_suffix (isM 5) (l := s.reverse)
  unfold lnb
  generalize s.reverse.dropWhile (isM 5) = d at ht
  have : s = d.reverse ++ t.reverse := by
    have := congrArg List.reverse ht
    simpa using this.symm
  rw [this, List.take_append_of_le_length (by simp)]
  rw [List.take_of_length_le (by simp)]
theorem trm_lr (l : List UInt8) : ((l.dropWhile (fun c => ([32, 9] : List UInt8).contains c)).reverse.dropWhile (fun c => ([32, 9] : List UInt8).contains c)).reverse = trm l := by
  unfold trm Lib.trimS Lib.trimLeftS Lib.trimRightS
  generalize (fun c => ([32, 9] : List UInt8).contains c) = p
  induction l with
  | nil => rfl
  | cons x l ih =>
    by_cases hx : p x = true
    · rw [List.dropWhile_cons_of_pos hx, ih]
      simp only [List.reverse_cons]
      rw [List.dropWhile_append]
      split
      · rename_i h
        simp only [List.isEmpty_iff] at h
        rw [h]
        simp [hx]
      · simp [List.reverse_append, hx]
    · rw [List.dropWhile_cons_of_neg hx]
      simp only [List.reverse_cons]
      rw [List.dropWhile_append]
      split
      · simp [hx]
      · simp [List.reverse_append, hx]
theorem trim_eq (s : List UInt8) : (s.drop (etM 5 s)).take (lnb (s.drop (etM 5 s))) = trm s := by
  have h5 : (isM 5) = (fun c => ([32, 9] : List UInt8).contains c) := funext is5
  have hd : s.drop (etM 5 s) = s.dropWhile (isM 5) := by
    unfold etM
    have := List.takeWhile_append_dropWhile (p := isM 5) (l := s)
    conv => lhs; arg 2; rw [← this]
    rw [List.drop_left]
  rw [hd, take_lnb, h5]
  exact trm_lr s
set_option maxHeartbeats 1000000 in
theorem trim8 (s : List UInt8) (w : World) (hs : s.length ≤ 1000000) :
    Calls Tryz.prog 85 #[.string (str s)] w fun e w' => e = .returned (.string (str (trm s))) ∧ Hid (Below w.heap.size w w') := by
  have z1 : (str s).size = s.length := str_size s
  have HE : Hid (Calls Tryz.prog 86 #[.string (str s), .int .i64 5] w fun e w' => e = .returned (.int .i64 (etM 5 s : Int)) ∧ Hid (Below w.heap.size w w')) := eat_any s 5 (by decide) w hs
  have HT := hide (trim_eq s)
  have hEl := etM_le 5 s
  generalize trm s = R at *
  generalize etM 5 s = E at *
  obtain ⟨t, ht⟩ : ∃ t, t = s.drop E := ⟨_, rfl⟩
  rw [← ht] at HT
  have e1 : (str s).extract E s.length = str t := by rw [ht]; exact cut_from s E
  have htl : t.length ≤ 1000000 := by rw [ht]; simp; omega
  have z2 : (str t).size = t.length := str_size t
  clear ht
  go_enter Tryz.func85, Tryz.ntmps85
  go_wp2_with fail
  refine (unhide HE).mono ?_
  rintro e w1 ⟨rfl, HB1⟩
  clear HE
  go_wp2
  go_loopw [3, 11] (fun v i wr => ∃ (k n : Nat), k ≤ t.length ∧ n ≤ k ∧ v = .int .i64 (n : Int) ∧ i = .int .i64 (k : Int) ∧ Hid (n = lnb (t.take k)) ∧ Hid (Below w.heap.size w wr)) (fun _ i _ => t.length - (intOf i).toNat)
  case atStart => exact ⟨0, 0, Nat.zero_le _, Nat.le_refl _, rfl, rfl, rfl, HB1⟩
  case round =>
    obtain ⟨k, n, hk, hnk, rfl, rfl, HN, HB⟩ := hrel
    by_cases hlt : k < t.length
    · have hlt' : (k : Int) < (t.length : Int) := by omega
      obtain ⟨c, hc⟩ : ∃ c, t.getD k 0 = c := ⟨_, rfl⟩
      have hix : ∀ w, (Instr.index 9 (.string (str t)) (.int .i64 (k : Int))).run Tryz.prog w = .ok (.int .u8 (c.toNat : Int)) w := fun w => by rw [← hc]; exact run_ixs w t k hlt
      have HLK : Hid (t[k]? = some c) := by show _ = _; rw [List.getElem?_eq_getElem hlt, ← hc, List.getD_eq_getElem?_getD, List.getElem?_eq_getElem hlt]; rfl
      have HI := hide (is5_any c wr)
      have HS : Hid (lnb (t.take (k + 1)) = if isM 5 c = true then n else k + 1) := by
        show _ = _
        rw [List.take_add_one, unhide HLK, Option.toList_some, lnb_snoc, unhide HN]
        congr 1
        simp; omega
      clear hc
      cases hp : isM 5 c with
      | true =>
        rw [hp] at HI HS
        clear hp
        go_wp2_with fail
        refine (unhide HI).mono ?_
        rintro e w2 ⟨rfl, HB2⟩
        go_wp2
        go_roundw
        case rel => exact ⟨k + 1, n, by omega, by omega, rfl, by go_num, (unhide HS).symm, hide ((unhide HB).trans ((unhide HB2).mono (unhide HB).size))⟩
        case measure => simp [intOf]; omega
      | false =>
        rw [hp] at HI HS
        clear hp
        go_wp2_with fail
        refine (unhide HI).mono ?_
        rintro e w2 ⟨rfl, HB2⟩
        go_wp2
        go_roundw
        case rel => exact ⟨k + 1, k + 1, by omega, by omega, by go_num, by go_num, (unhide HS).symm, hide ((unhide HB).trans ((unhide HB2).mono (unhide HB).size))⟩
        case measure => simp [intOf]; omega
    · obtain rfl : k = t.length := by omega
      have e2 : (str t).extract 0 n = str (t.take n) := cut_to t n
      have HF : Hid (t.take n = R) := by
        have h1 := unhide HN
        rw [List.take_length] at h1
        show _ = _
        rw [h1]; exact unhide HT
      clear hlt
      go_wp2
      go_ret
      exact ⟨by rw [← unhide HF]; rfl, HB⟩
#print axioms trim8
end Go.Proofs.YtonaekkenggmbaaGreatDoor
end
