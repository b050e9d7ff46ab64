/-
  HttpdPieces's walk.
-/
import Derived.Test.YthkadboeokgjnaaGreatDoorPkHcesbg
section
set_option linter.unusedVariables false
set_option maxRecDepth 1000000
namespace Go.Proofs.YthkadboeokgjnaaGreatDoor
open Go.RowKit

theorem Prt.one {w : World} {x : Option Addr} {c : Nat} {b : List UInt8} (h : Bs w x c b) : Prt (w.alloc (.cells #[.slice x b.length c] 22)) (some ⟨w.heap.size, 0, none⟩) [(x, b.length, c)] [b] := by
  refine ⟨rfl, fun _ => ⟨w.heap.size, 0, rfl, fun i y hy => ?_⟩, fun i q hq => ?_⟩
  · have hi := (List.getElem?_eq_some_iff.1 hy).1
    simp at hi
    subst hi
    simp at hy
    subst hy
    exact cell_lits w _ _ _
  · have hi := (List.getElem?_eq_some_iff.1 hq).1
    simp at hi
    subst hi
    simp at hq
    subst hq
    exact ⟨x, c, rfl, h.alloc _⟩
set_option maxHeartbeats 4000000 in
theorem pieces_law (w : World) (hE : EnvH w) (x : Option Addr) (c : Nat) (b : List UInt8) (h1 : Bs w x c b) (a : Option Addr) (ca : Nat) (cuts : List Int) (h2 : IRow w a cuts) :
    Calls Tryz.prog 8 #[.slice x b.length c, .slice a cuts.length ca] w fun e w' => e = .returned (.bool true) ∧ Hid (Below w.heap.size w w') := by
  by_cases hb : b.length ≤ 32768
  · have g1 : ¬ (32768 : Int) < (b.length : Int) := by omega
    obtain ⟨o, ho⟩ : ∃ o, o = Obj.cells #[.slice x b.length c] 22 := ⟨_, rfl⟩
    have hb0 : Below w.heap.size w (w.alloc o) := (Below.refl _ _).alloc (Nat.le_refl _) _
    have HR1 := hide (read_any (w.alloc o) (hE.below hb0) (some ⟨w.heap.size, 0, none⟩) 1 [(x, b.length, c)] [b] (by rw [ho]; exact Prt.one h1) (by simpa using hb) (by simp))
    rw [show [b].flatten = b by simp] at HR1
    have HB0 := hide hb0
    have HE := hide hE
    have H1 := hide h1
    have H2 := hide h2
    rw [ho] at HR1 HB0
    have HBd := hide (tell_bound b)
    have HTl := hide (tell_len b)
    clear ho hb0 hE h1 h2 o
    generalize hT : tell b = T at *
    have HTT := hide hT
    clear hT
    go_enter Tryz.func8, Tryz.ntmps8
    go_wp2_with fail
    refine (unhide HR1).mono ?_
    rintro e w1 ⟨lp, lc, L, st, rfl, HL, HQ, HB1⟩
    clear HR1
    have HW1 : Hid (Below w.heap.size w w1) := (unhide HB0).trans ((unhide HB1).mono (unhide HB0).size)
    obtain ⟨o1, ho1⟩ : ∃ o, o = Obj.cells #[.slice lp L.length lc, .int .i64 (st : Int)] 70 := ⟨_, rfl⟩
    have hbo : Below w.heap.size w (w1.alloc o1) := (unhide HW1).alloc (unhide HW1).size _
    have HPC := hide (pieces_any (w1.alloc o1) x c b ((unhide H1).below hbo (Nat.le_refl _)) (by omega) a ca cuts ((unhide H2).below hbo))
    have HBO := hide hbo
    have HO1 : Hid ((w1.alloc o1).heap[w1.heap.size]? = some (.cells #[.slice lp L.length lc, .int .i64 (st : Int)] 70 (0, 0))) := by rw [ho1]; exact heap_alloc_new w1 _
    have HQ1 : Hid (RqR (w1.alloc o1) lp L) := (unhide HQ).below ((Below.refl _ _).alloc (Nat.le_refl _) _)
    have HZ1 : Hid (w1.heap.size < (w1.alloc o1).heap.size) := by show _ < _; simp
    rw [ho1] at HPC HBO HO1 HQ1 HZ1
    clear ho1 hbo o1 HQ HB1
    go_wp2_with fail
    refine (unhide HPC).mono ?_
    rintro e w2 ⟨p, pc, vs, ps, rfl, HP, HB2⟩
    clear HPC
    have HW2 : Hid (Below w.heap.size w w2) := (unhide HBO).trans ((unhide HB2).mono (unhide HBO).size)
    have HR2 := hide (read_any w2 ((unhide HE).below (unhide HW2)) p pc vs ps (unhide HP).1 (by rw [(unhide HP).2.1]; exact hb) (by have := (unhide HP).2.2; omega))
    rw [(unhide HP).2.1, unhide HTT] at HR2
    have HQ2 := hide ((unhide HQ1).below (unhide HB2))
    have HO2 := hide (((unhide HB2).block _ (unhide HZ1)).trans (unhide HO1))
    have HZ2 : Hid (w1.heap.size < w2.heap.size) := Nat.lt_of_lt_of_le (unhide HZ1) (unhide HB2).size
    clear HB2 HQ1 HO1 HZ1
    go_wp2_with fail
    refine (unhide HR2).mono ?_
    rintro e w3 ⟨lp2, lc2, L2, st2, rfl, HL2, HQ3, HB3⟩
    clear HR2
    obtain rfl : st2 = st := (unhide HL2).2.trans (unhide HL).2.symm
    obtain ⟨o3, ho3⟩ : ∃ o, o = Obj.cells #[.slice lp2 L2.length lc2, .int .i64 (st2 : Int)] 70 := ⟨_, rfl⟩
    have hb3 : Below w3.heap.size w3 (w3.alloc o3) := (Below.refl _ _).alloc (Nat.le_refl _) _
    have hb23 : Below w2.heap.size w2 (w3.alloc o3) := (unhide HB3).alloc (unhide HB3).size _
    have hW3 : Below w.heap.size w (w3.alloc o3) := (unhide HW2).trans (hb23.mono (unhide HW2).size)
    have hr1 := (hb23.block _ (unhide HZ2)).trans (unhide HO2)
    have hr3 : (w3.alloc o3).heap[w3.heap.size]? = some (.cells #[.slice lp2 L2.length lc2, .int .i64 (st2 : Int)] 70 (0, 0)) := by rw [ho3]; exact heap_alloc_new w3 _
    have q0 : (w3.alloc o3).cell? ⟨w1.heap.size, 0, none⟩ = some (.slice lp L.length lc) := cell_of_row _ _ _ _ _ _ hr1
    have q1 : (w3.alloc o3).cell? ⟨w1.heap.size, 1, none⟩ = some (.int .i64 (st2 : Int)) := cell_of_row _ _ _ _ _ _ hr1
    have q2 : (w3.alloc o3).cell? ⟨w3.heap.size, 0, none⟩ = some (.slice lp2 L2.length lc2) := cell_of_row _ _ _ _ _ _ hr3
    have q3 : (w3.alloc o3).cell? ⟨w3.heap.size, 1, none⟩ = some (.int .i64 (st2 : Int)) := cell_of_row _ _ _ _ _ _ hr3
    have hLl : L.length ≤ 32768 := by
      have h3 := congrArg List.length (unhide HL).1
      simp at h3
      have := unhide HTl
      omega
    have HEQ := hide (eqr_any lp lp2 lc lc2 L L2 (w3.alloc o3) ((unhide HQ2).below hb23) ((unhide HQ3).below hb3) ((unhide HL).1.trans (unhide HL2).1.symm) (by rw [(unhide HL).1]; exact unhide HBd) (by omega))
    have HW3 := hide hW3
    rw [ho3] at q0 q1 q2 q3 HEQ HW3
    clear hb3 hb23 hW3 hr1 hr3 ho3 o3
    go_wp2_with fail
    refine (unhide HEQ).mono ?_
    rintro e w4 ⟨rfl, HB4⟩
    have HW4 : Hid (Below w.heap.size w w4) := (unhide HW3).trans ((unhide HB4).mono (unhide HW3).size)
    clear HEQ q0 q1 q2 q3
    go_wp2_with fail
    refine (awake8_any w4 ((unhide HE).below (unhide HW4))).mono ?_
    rintro e w5 ⟨rfl, HB5⟩
    go_wp2_with fail
    go_ret
    exact ⟨rfl, hide ((unhide HW4).trans ((unhide HB5).mono (unhide HW4).size))⟩
  · have g1 : (32768 : Int) < (b.length : Int) := by omega
    have HAW := hide (awake8_any w hE)
    go_enter Tryz.func8, Tryz.ntmps8
    go_wp2_with fail
    refine (unhide HAW).mono ?_
    rintro e V2 ⟨rfl, HB2⟩
    go_wp2_with fail
    go_ret
    exact ⟨rfl, HB2⟩
theorem httpdPieces_walk (a0 : Option Addr) (c0 : Nat) (l0 : List UInt8) (a1 : Option Addr) (c1 : Nat) (l1 : List Int) (w : World) (h0 : Bs w a0 c0 l0) (h1 : IRow w a1 l1) (hE : EnvH w) :
    Calls Tryz.prog 8 #[.slice a0 l0.length c0, .slice a1 l1.length c1] w fun e w' => e = .returned (.bool true) ∧ Below w.heap.size w w' :=
  (pieces_law w hE a0 c0 l0 h0 a1 c1 l1 h1).mono fun e w' h => ⟨h.1, unhide h.2⟩
#print axioms httpdPieces_walk
end Go.Proofs.YthkadboeokgjnaaGreatDoor
end
