/-
  httpd: bytes.Cut at a head's end; cutHead.
-/
import Derived.Test.YtonaekkenggmbaaGreatDoorPkHadsbl
import Derived.Test.YtonaekkenggmbaaGreatDoorPkHadsau
section
set_option linter.unusedVariables false
set_option maxRecDepth 1000000
namespace Go.Proofs.YtonaekkenggmbaaGreatDoor
open Go.RowKit

set_option maxHeartbeats 2000000 in
theorem bcut_any (x : Option Addr) (cx : Nat) (l : List UInt8) (A c2 : Nat) (w : World) (hE : EnvH w) (hb : Bs w x cx l) (h2 : Bs w (some ⟨A, 0, none⟩) c2 hend) (hl : l.length ≤ 1000000) :
    Calls Tryz.prog 87 #[.slice x l.length cx, .slice (some ⟨A, 0, none⟩) 4 c2] w fun e w' => ∃ a c r y n2 c3 fnd, e = .returned (.tuple #[.slice a r.length c, .slice y n2 c3, .bool fnd]) ∧ Hid (Bs w' a c r) ∧ Hid (fnd = decide (0 ≤ Lib.index l hend) ∧ (fnd = true → r = l.take (Lib.index l hend).toNat)) ∧ Hid (Below w.heap.size w w') := by
  have HI := hide (index_w w x cx l A c2 hE hb h2 hl)
  have hrow : l ≠ [] → ∃ b off, x = some ⟨b, off, none⟩ := fun hne => by obtain ⟨b, off, e, _⟩ := hb.row hne; exact ⟨b, off, e⟩
  by_cases h0 : 0 ≤ Lib.index l hend
  · have hroom := Lib.index_room l hend h0
    obtain ⟨i, hi⟩ : ∃ i : Nat, Lib.index l hend = (i : Int) := ⟨_, (Int.toNat_of_nonneg h0).symm⟩
    have h4 : hend.length = 4 := rfl
    have hi4 : i + 4 ≤ l.length := by omega
    obtain ⟨a, k1, k2, k3⟩ := cut_head x l.length cx i l (by omega) hb.le hrow
    obtain ⟨y, m1, m2, m3⟩ := cut_tail x cx (i + 4) l hb.le hi4 hrow
    have m1' : ∀ w, (Instr.slice 28 (.slice x l.length cx) (some (.int .i64 ((i : Int) + 4))) none none).run Tryz.prog w = .ok (.slice y (l.length - (i + 4)) (cx - (i + 4))) w := fun w => m1 w
    have HF : Hid ((true : Bool) = decide (0 ≤ Lib.index l hend) ∧ ((true : Bool) = true → l.take i = l.take (Lib.index l hend).toNat)) := ⟨by rw [decide_eq_true h0], fun _ => by rw [hi]; rfl⟩
    have HK := hide (fun w h => k2 w h)
    have HB := hide hb
    have hil : (l.take i).length = i := by simp; omega
    have HIL := hide hil
    have hi0 : (0 : Int) ≤ (i : Int) := by omega
    have hi6 : (i : Int) ≤ 1000000 := by omega
    rw [hi] at HI
    generalize Lib.index l hend = X at *
    clear h0 hroom hi m1 m2 m3 k2 k3 hb h2 hE hrow h4 hil
    go_enter Tryz.func87, Tryz.ntmps87
    go_wp2_with fail
    refine (unhide HI).mono ?_
    rintro e w2 ⟨rfl, HB2⟩
    clear HI
    go_upto_region 3 with fail
    go_quiet (fail)
    have HBF : Hid (Below w.heap.size w (w2.drewN nq)) := bdr (unhide HB2) nq
    have HBs : Hid (Bs (w2.drewN nq) a cx (l.take i)) := unhide HK _ ((unhide HB).below (unhide HBF) (Nat.le_refl _))
    go_wp2_with fail
    refine bodyPost_ret (v := .tuple #[.slice a i cx, .slice y (l.length - (i + 4)) (cx - (i + 4)), .bool true]) (by simp [results, Tryz.results87, go_sem]) rfl ?_
    exact ⟨a, cx, l.take i, y, _, _, true, by rw [unhide HIL], HBs, hide ⟨(unhide HF).1, fun _ => (unhide HF).2 (by simp)⟩, HBF⟩
  · have h0' : ¬ (0 : Int) ≤ Lib.index l hend := h0
    have HF : Hid ((false : Bool) = decide (0 ≤ Lib.index l hend) ∧ ((false : Bool) = true → l = l.take (Lib.index l hend).toNat)) := ⟨by rw [decide_eq_false h0], fun h => by cases h⟩
    have HB := hide hb
    generalize Lib.index l hend = X at *
    clear h0 hb h2 hE hrow
    go_enter Tryz.func87, Tryz.ntmps87
    go_wp2_with fail
    refine (unhide HI).mono ?_
    rintro e w2 ⟨rfl, HB2⟩
    have HBs := hide ((unhide HB).below (unhide HB2) (Nat.le_refl _))
    clear HI
    go_wp2_with fail
    refine bodyPost_ret (v := .tuple #[.slice x l.length cx, .slice none 0 0, .bool false]) (by simp [results, Tryz.results87, go_sem]) rfl ?_
    exact ⟨x, cx, l, none, 0, 0, false, rfl, HBs, hide ⟨(unhide HF).1, fun h => by cases h⟩, HB2⟩
#print axioms bcut_any
/-- What stands ahead of the first empty line, and why nothing does. -/
def chF (l : List UInt8) : List UInt8 := l.take (min l.length 8196)
def chM (l : List UInt8) : List UInt8 × Nat := if 0 ≤ Lib.index (chF l) hend then ((chF l).take (Lib.index (chF l) hend).toNat, 0) else if 8196 ≤ l.length then ([], 80) else ([], 2)
set_option maxHeartbeats 2000000 in
theorem cutHead_any (x : Option Addr) (cx : Nat) (l : List UInt8) (w : World) (hE : EnvH w) (hb : Bs w x cx l) (hl : l.length ≤ 1000000) :
    Calls Tryz.prog 64 #[.slice x l.length cx] w fun e w' => e = .returned (.tuple #[.string (str (chM l).1), .int .i64 ((chM l).2 : Int)]) ∧ Hid (Below w.heap.size w w') := by
  obtain ⟨m, hm⟩ : ∃ m : Nat, m = min l.length 8196 := ⟨_, rfl⟩
  have mM : min (l.length : Int) 8196 = (m : Int) := by rw [hm]; omega
  have hml : m ≤ l.length := by omega
  have hm8 : m ≤ 8196 := by omega
  have hFl : (chF l).length = m := by unfold chF; rw [← hm]; simp; omega
  have hrow : l ≠ [] → ∃ b off, x = some ⟨b, off, none⟩ := fun hne => by obtain ⟨b, off, e, _⟩ := hb.row hne; exact ⟨b, off, e⟩
  obtain ⟨a, k1, k2, k3⟩ := cut_head x l.length cx m l hml hb.le hrow
  obtain ⟨V, hV⟩ : ∃ V, V = w.alloc (.cells #[.int .u8 13, .int .u8 10, .int .u8 13, .int .u8 10] 5 (4, 5)) := ⟨_, rfl⟩
  have hbV : Below w.heap.size w V := by rw [hV]; exact (Below.refl _ _).alloc (Nat.le_refl _) _
  have hF : Bs V a cx (chF l) := by unfold chF; rw [← hm]; exact k2 V (hb.below hbV (Nat.le_refl _))
  have hS : Bs V (some ⟨w.heap.size, 0, none⟩) 4 hend := by rw [hV]; exact bsc w _ hend rfl (4, 5) (by simp [hend])
  have HC := hide (bcut_any a cx (chF l) w.heap.size 4 V (hE.below hbV) hF hS (by omega))
  rw [hFl] at HC
  have HM : Hid (chM l = if 0 ≤ Lib.index (chF l) hend then ((chF l).take (Lib.index (chF l) hend).toNat, 0) else if 8196 ≤ l.length then ([], 80) else ([], 2)) := rfl
  have HBV := hide hbV
  have kc := fun (w : World) (C : Array Value) (n c : Nat) => Lib.run_convert_bytes_const (P := Tryz.prog) w 28 5 C n c Tryz.underlying28 Tryz.underlying5
  generalize chM l = M at *
  generalize chF l = F at *
  clear hm hE hb hrow k2 k3 hbV hF hS hFl
  go_enter Tryz.func64, Tryz.ntmps64
  go_upto_region 2 with fail
  go_wp2_with fail
  rw [← hV]
  refine (unhide HC).mono ?_
  rintro e w2 ⟨a2, c2, r, y, n2, c3, fnd, rfl, HBr, HFd, HB2⟩
  have HBF : Hid (Below w.heap.size w w2) := (unhide HBV).trans ((unhide HB2).mono (unhide HBV).size)
  have kS := run_str w2 a2 _ c2 r (unhide HBr).row rfl
  clear HC hV
  cases fnd with
  | true =>
    have HR : Hid (M = (r, 0)) := by
      have h1 : 0 ≤ Lib.index F hend := of_decide_eq_true (unhide HFd).1.symm
      show _ = _
      rw [unhide HM, if_pos h1, (unhide HFd).2 rfl]
    clear HM HFd
    go_wp2_with fail
    go_ret2
    exact ⟨by rw [unhide HR]; rfl, HBF⟩
  | false =>
    have h1 : ¬ 0 ≤ Lib.index F hend := of_decide_eq_false (unhide HFd).1.symm
    by_cases h8 : 8196 ≤ l.length
    · have h8' : (8196 : Int) ≤ (l.length : Int) := by omega
      have HR : Hid (M = ([], 80)) := by show _ = _; rw [unhide HM, if_neg h1, if_pos h8]
      clear HM HFd h1 h8
      go_wp2_with fail
      go_ret2
      exact ⟨by rw [unhide HR]; rfl, HBF⟩
    · have h8' : ¬ (8196 : Int) ≤ (l.length : Int) := by omega
      have HR : Hid (M = ([], 2)) := by show _ = _; rw [unhide HM, if_neg h1, if_neg h8]
      clear HM HFd h1 h8
      go_wp2_with fail
      go_ret2
      exact ⟨by rw [unhide HR]; rfl, HBF⟩
#print axioms cutHead_any
end Go.Proofs.YtonaekkenggmbaaGreatDoor
end
