/-
  LinkOnce: THE WALK.
-/
import Derived.Test.YthnhidnkmafpoaaLnqA
import Derived.Test.YthnhidnkmafpoaaLnkK
import Derived.Test.YthnhidnkmafpoaaLnoF
set_option linter.unusedVariables false
namespace Go.Proofs.Ythnhidnkmafpoaa
open Go.RowKit Go.Maps

/-- Dial, whatever it is asked. -/
theorem dial_any (N bm : Nat) (last : Int) (n : Nat) (D : DataW Unit) (a b : Int) (w : World) (h : NT w N bm last n D) (hl0 : 0 ≤ last) (hl1 : last < 1000000000) (hn : n < 1000000000) :
    Calls Try.prog 7 #[.pointer (some ⟨N, 0, none⟩), .int .i64 a, .int .i64 b] w fun e w' => (∃ E : Int, e = .returned (.tuple #[.int .i64 0, .int .i64 E]) ∧ (E != 0) = true ∧ w' = w) ∨ (e = .returned (.tuple #[.int .i64 (last + 1), .int .i64 0]) ∧ Hid (DialC w w' N bm last n D a b)) := by
  by_cases hbad : a = b ∨ ¬ (0 ≤ a ∧ a < 16) ∨ ¬ (0 ≤ b ∧ b < 16)
  · refine (dial_arg N bm last n D a b w h hbad).mono ?_
    rintro e w' ⟨rfl, rfl⟩
    exact .inl ⟨1, rfl, rfl, rfl⟩
  · have h1 : a ≠ b := fun e => hbad (.inl e)
    have h2 : 0 ≤ a ∧ a < 16 := Classical.byContradiction fun e => hbad (.inr (.inl e))
    have h3 : 0 ≤ b ∧ b < 16 := Classical.byContradiction fun e => hbad (.inr (.inr e))
    by_cases hf : 64 ≤ Maps.size D
    · refine (dial_full N bm last n D a b w h h2.1 h2.2 h3.1 h3.2 h1 hf).mono ?_
      rintro e w' ⟨rfl, rfl⟩
      exact .inl ⟨7, rfl, rfl, rfl⟩
    · refine (dial_c N bm last n D a b w h h2.1 h2.2 h3.1 h3.2 h1 (by omega) hl0 hl1 hn).mono ?_
      rintro e w' ⟨rfl, hd⟩
      exact .inr ⟨rfl, hd⟩

structure LO (w1 wr : World) (N bm : Nat) (last : Int) (n : Nat) (D : DataW Unit) (k : Nat) : Prop where
  bel : Below w1.heap.size w1 wr
  net : NT wr N bm last n D
  l0 : 0 ≤ last
  l1 : last ≤ (k : Int)
  n1 : n ≤ k
  N0 : w1.heap.size ≤ N
  m0 : w1.heap.size ≤ bm
theorem LO.below {w1 wr wx : World} {N bm : Nat} {last : Int} {n : Nat} {D : DataW Unit} {k : Nat} (h : LO w1 wr N bm last n D k) (hb : Below wr.heap.size wr wx) : LO w1 wx N bm last n D k :=
  ⟨h.bel.trans (hb.mono h.bel.size), h.net.below hb, h.l0, h.l1, h.n1, h.N0, h.m0⟩
theorem LO.turn {w1 wr wx : World} {N bm : Nat} {last last' : Int} {n n' : Nat} {D D' : DataW Unit} {k k' : Nat} {S : Nat → Prop} (h : LO w1 wr N bm last n D k) (hk : Kp wr wx S) (hS : ∀ j, S j → j = N ∨ j = bm) (hn : NT wx N bm last' n' D') (a : 0 ≤ last') (b : last' ≤ (k' : Int)) (c : n' ≤ k') : LO w1 wx N bm last' n' D' k' :=
  ⟨hk.below h.bel h.bel.size (fun j hj => by rcases hS j hj with rfl | rfl; exact h.N0; exact h.m0), hn, a, b, c, h.N0, h.m0⟩

set_option maxRecDepth 20000 in
set_option maxHeartbeats 4000000 in
theorem linkOnce_walk (p : Option Addr) (cp : Nat) (l : List Dl) (w : World) (h : DlR w p l) :
    Calls Try.prog 3 #[.slice p l.length cp] w fun e w' => e = .returned (.bool true) ∧ Below w.heap.size w w' := by
  go_enter Try.func3, Try.ntmps3
  go_wp2_with fail
  refine (short_l p cp l w h).mono ?_
  rintro e w1 ⟨rfl, rfl | ⟨rfl, HS⟩⟩
  · go_wp2_with fail
    refine (awake_true w1).mono ?_
    rintro e w2 ⟨rfl, hb⟩
    go_wp2
    go_ret
    exact ⟨rfl, hb⟩
  · go_wp2_with fail
    refine (new_net w1).mono ?_
    rintro e w2 ⟨N, bm, rfl, hN, hm, hN0, hm0, hb1⟩
    have hle := h.le
    unfold maxLen at hle
    have hl200 := (unhide HS).1
    have HST : Hid (LO w1 w2 N bm 0 0 (.map []) 0) := ⟨hb1, ⟨hN, hm⟩, by omega, by omega, by omega, hN0, hm0⟩
    have HH := hide h
    clear hN hm hN0 hm0 hb1 h HS
    go_wp2
    go_loopw [4, 16] (fun v i wr => ∃ k : Nat, k ≤ l.length ∧ i = .int .i64 (k : Int) ∧ ∃ last n D, v = .int .i64 last ∧ Hid (LO w1 wr N bm last n D k)) (fun _ i _ => l.length - (intOf i).toNat)
    case atStart => exact ⟨0, Nat.zero_le _, rfl, _, _, _, rfl, HST⟩
    case round =>
      clear HST
      obtain ⟨k, hk, rfl, last, n, D, rfl, HL⟩ := hrel
      by_cases hlt : k < l.length
      · obtain ⟨d, hd⟩ : ∃ d, l[k]? = some d := ⟨_, List.getElem?_eq_getElem hlt⟩
        have hbel := (unhide HL).bel
        have hla0 := (unhide HL).l0
        have hla1 := (unhide HL).l1
        have hn1 := (unhide HL).n1
        obtain ⟨b, off, hpe, hc⟩ := (unhide HH).mem (by intro e; subst e; simp at hd)
        subst hpe
        obtain ⟨x, cx, hv, a0, a1, a2, a3, a4⟩ := hc k d hd
        have cc : ∀ {q : Addr} {v : Value}, w1.cell? q = some v → wr.cell? q = some v := fun {q v} e => by rw [hbel.cell (World.block_lt_of_cell? w1 _ e)]; exact e
        have c0 := cc a0
        have c1 := cc a1
        have c2 := cc a2
        have c3 := cc a3
        have c4 := cc a4
        have HWI := hide hv.i
        clear a0 a1 a2 a3 a4 cc
        have hlt' : (k : Int) < (l.length : Int) := by omega
        obtain ⟨wd, hwd⟩ : ∃ wd, wd = wr.alloc (.cells #[.int .i64 d.o, .int .i64 d.i, .int .i64 d.a, .int .i64 d.b, .slice x d.l.length cx] 29) := ⟨_, rfl⟩
        have HBd : Hid (Below wr.heap.size wr wd) := by rw [hwd]; exact (Below.refl _ _).alloc (Nat.le_refl _) _
        have HLd := hide ((unhide HL).below (unhide HBd))
        have hZ : wd.heap[wr.heap.size]? = some (.cells #[.int .i64 d.o, .int .i64 d.i, .int .i64 d.a, .int .i64 d.b, .slice x d.l.length cx] 29 (0, 0)) := by rw [hwd]; exact heap_alloc_new wr _
        have HZ := hide hZ
        have hNlt := (unhide HL).net.ltN
        have hmlt := (unhide HL).net.own.lt
        have z1 : wd.cell? ⟨wr.heap.size, 1, none⟩ = some (.int .i64 d.i) := by rw [cell_of_row wd wr.heap.size 1 _ _ _ hZ]; rfl
        have z2 : wd.cell? ⟨wr.heap.size, 2, none⟩ = some (.int .i64 d.a) := by rw [cell_of_row wd wr.heap.size 2 _ _ _ hZ]; rfl
        have z3 : wd.cell? ⟨wr.heap.size, 3, none⟩ = some (.int .i64 d.b) := by rw [cell_of_row wd wr.heap.size 3 _ _ _ hZ]; rfl
        clear hc hd hbel hZ hv HL
        go_upto_region 8 with fail
        rw [← hwd]
        clear hwd c0 c1 c2 c3 c4
        go_wp2_with fail
        refine (dial_any N bm last n D d.a d.b wd (unhide HLd).net hla0 (by omega) (by omega)).mono ?_
        rintro e w3 (⟨E, rfl, hE, rfl⟩ | ⟨rfl, HD⟩)
        · go_wp2_with (go_at_call 8; refine (cut_any N bm last n D d.i w3 (unhide HLd).net (unhide HWI)).mono ?_; rintro e w4 ⟨z, D', rfl, HN4, HK4, -⟩)
          have HL4 : Hid (LO w1 w4 N bm last n D' (k + 1)) := (unhide HLd).turn (unhide HK4) (fun j hj => .inr hj) (unhide HN4) hla0 (by omega) (by omega)
          go_roundw
          case rel => exact ⟨k + 1, by omega, by go_num, last, n, D', rfl, HL4⟩
          case measure => simp [intOf]; omega
        · obtain ⟨C, hC, hnt, hcc, hk3⟩ := unhide HD
          have hhas : Maps.has (D.put (.int .i64 (last + 1)) (.lit (.int .i64 (C : Int)))) (.int .i64 (last + 1)) = true := Maps.has_put_same (unhide HLd).net.own.isMap (by trivial) _
          have HL3 : Hid (LO w1 w3 N bm (last + 1) (n + 1) (D.put (.int .i64 (last + 1)) (.lit (.int .i64 (C : Int)))) (k + 1)) := (unhide HLd).turn hk3 (fun j hj => hj) hnt (by omega) (by omega) (by omega)
          have HZ3 : Hid (w3.heap[wr.heap.size]? = some (.cells #[.int .i64 d.o, .int .i64 d.i, .int .i64 d.a, .int .i64 d.b, .slice x d.l.length cx] 29 (0, 0))) := (hk3.block _ (Array.getElem?_eq_some_iff.1 (unhide HZ)).1 (by rintro (e | e) <;> omega)).trans (unhide HZ)
          have HHas := hide hhas
          clear z1 z2 z3 hcc hC hnt hk3 HD HZ HLd hhas
          generalize D.put (.int .i64 (last + 1)) (.lit (.int .i64 (C : Int))) = D3 at *
          have hwf : (Lit.int .i64 (last + 1)).wf = true := wf_i64 _ (by omega) (by omega)
          obtain ⟨id, hid⟩ : ∃ id, id = last + 1 := ⟨_, rfl⟩
          rw [← hid] at HL3 HHas hwf ⊢
          have hidl : (id != last + 1) = false := by rw [hid]; simp
          have hid2 : last + 1 = id := hid.symm
          have hidn : (id != id) = false := by simp
          have HWF := hide hwf
          have HCO := hide (conns_any N bm id (n + 1) D3 w3 (unhide HL3).net (by omega))
          obtain ⟨r, hr⟩ : ∃ r : Int, d.o.tmod 2 = r := ⟨_, rfl⟩
          clear hwf hid
          go_upto_region 16 with (first
            | (go_at_call 10; refine (unhide HCO).mono ?_; rintro e w4 ⟨a4, c4, l4, rfl, HLL, HIN, HIR, HB4⟩)
            | (go_at_call 9; refine (contains_in a4 c4 l4 id w4 (unhide HIR) (unhide HLL) (unhide HIN id (unhide HHas))).mono ?_; rintro e w5 ⟨rfl, hw5⟩; have hw5 := hw5.symm; subst hw5))
          have HL4 := hide ((unhide HL3).below (unhide HB4))
          have HZ4 := ((unhide HB4).block _ (Array.getElem?_eq_some_iff.1 (unhide HZ3)).1).trans (unhide HZ3)
          have z0 : w4.cell? ⟨wr.heap.size, 0, none⟩ = some (.int .i64 d.o) := by rw [cell_of_row w4 wr.heap.size 0 _ _ _ HZ4]; rfl
          clear HZ4
          by_cases hr0 : r = 0
          · subst hr0
            go_wp2_with (go_at_call 8; refine (cut_any N bm id (n + 1) D3 id w4 (unhide HL4).net (unhide HWF)).mono ?_; rintro e w6 ⟨z, D', rfl, HN6, HK6, -⟩)
            have HL6 : Hid (LO w1 w6 N bm id (n + 1) D' (k + 1)) := (unhide HL4).turn (unhide HK6) (fun j hj => .inr hj) (unhide HN6) (unhide HL4).l0 (unhide HL4).l1 (unhide HL4).n1
            go_roundw
            case rel => exact ⟨k + 1, by omega, by go_num, id, n + 1, D', rfl, HL6⟩
            case measure => simp [intOf]; omega
          · have hr1 : (r == 0) = false := by simpa using hr0
            go_wp2
            go_roundw
            case rel => exact ⟨k + 1, by omega, by go_num, id, n + 1, D3, rfl, HL4⟩
            case measure => simp [intOf]; omega
      · have hlt' : ¬ (k : Int) < (l.length : Int) := by omega
        have HB := hide (unhide HL).bel
        clear hlt HL
        go_wp2_with (go_at_call 5; refine (awake_true wr).mono ?_; rintro e w9 ⟨rfl, hb9⟩)
        go_ret
        exact ⟨rfl, (unhide HB).trans (hb9.mono (unhide HB).size)⟩
#print axioms linkOnce_walk
end Go.Proofs.Ythnhidnkmafpoaa
