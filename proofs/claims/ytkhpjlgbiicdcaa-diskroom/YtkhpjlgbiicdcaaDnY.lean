/-
  THE WALK OF DiskRoom.
-/
import Derived.Test.YtkhpjlgbiicdcaaDnV
set_option linter.unusedVariables false
namespace Go.Proofs.Ytkhpjlgbiicdcaa
open Go.RowKit Go.Maps

/-- A block that belongs to no disk. -/
def Bx (w : World) (g : Nat → Tg) (Z : Nat) (o : Obj) : Prop := w.heap[Z]? = some o ∧ g Z = .o
theorem Bx.lt {w : World} {g : Nat → Tg} {Z : Nat} {o : Obj} (h : Bx w g Z o) : Z < w.heap.size := (Array.getElem?_eq_some_iff.1 h.1).1
theorem Bx.st {w w' : World} {g g' : Nat → Tg} {i Z : Nat} {o : Obj} (h : Bx w g Z o) (x : St w w' g g' (fun t => t.of i)) : Bx w' g' Z o :=
  ⟨x.heap h.1 (by rw [h.2]; exact fun e => e), (x.ag Z h.lt).trans h.2⟩
theorem Bx.below {w w' : World} {g : Nat → Tg} {Z : Nat} {o : Obj} (h : Bx w g Z o) (b : Below w.heap.size w w') : Bx w' g Z o := ⟨(b.block Z h.lt).trans h.1, h.2⟩
theorem Bx.clone {w w' : World} {g g' : Nat → Tg} {Z j : Nat} {o : Obj} (h : Bx w g Z o) (b : Below w.heap.size w w') (hg : ∀ k, k < w.heap.size → g' k = retag j g k) : Bx w' g' Z o := by
  refine ⟨(b.block Z h.lt).trans h.1, ?_⟩
  rw [hg Z h.lt]
  unfold retag
  rw [h.2]
  split <;> rfl
theorem bx_new (w : World) (g : Nat → Tg) (o : Obj) : ∃ g', St w (w.alloc o) g g' (fun t => t.of 7) ∧ Bx (w.alloc o) g' w.heap.size o :=
  ⟨fun k => if k < w.heap.size then g k else .o, (St.ofBelow g _ ((Below.refl _ _).alloc (Nat.le_refl _) o)).tag (fun k hk => by simp [hk]), heap_alloc_new w o, if_neg (by omega)⟩
theorem op3000 (o : Int) : ∃ r : Nat, r < 3000 ∧ wrap64 ((IntKind.u64.wrap o).tmod 3000) = (r : Int) := by
  have e : IntKind.u64.wrap o = o % 18446744073709551616 := by simp [IntKind.wrap, IntKind.bits, IntKind.signed]
  have h0 : 0 ≤ o % 18446744073709551616 := Int.emod_nonneg _ (by omega)
  have e2 : (o % 18446744073709551616).tmod 3000 = o % 18446744073709551616 % 3000 := Int.tmod_eq_emod_of_nonneg h0
  refine ⟨(o % 18446744073709551616 % 3000).toNat, by omega, ?_⟩
  rw [e, e2, IntWalk.wrap64_in _ (by omega)]
  omega
theorem DK.sn {w : World} {g : Nat → Tg} {i D : Nat} {M : Md} {N : Nat} (h : DK w g i D M N) : M.seenN ≤ N := by
  obtain ⟨J, _, h2, _⟩ := h
  exact h2.sn

set_option maxRecDepth 20000 in
set_option maxHeartbeats 4000000 in
theorem diskRoom_walk (room : Int) (p : Option Addr) (c : Nat) (l : List Dm) (w : World) (hR : DoR w p l) :
    Calls Try.prog 6 #[.int .i64 room, .slice p l.length c] w fun e w' => e = .returned (.bool true) ∧ Below w.heap.size w w' := by
  have hle := hR.le
  unfold maxLen at hle
  obtain ⟨rm, hrm, hrw⟩ := op3000 room
  go_enter Try.func6, Try.ntmps6
  go_wp2_with fail
  refine (short_any p c l w hR).mono ?_
  rintro e w1 ⟨rfl, rfl⟩
  cases hsb : shortB l with
  | false =>
    clear hsb
    go_wp2_with fail
    refine (awake_true _).mono ?_
    rintro e v ⟨rfl, hb⟩
    go_wp2
    go_ret
    exact ⟨rfl, hb⟩
  | true =>
    obtain ⟨hlen, hlb⟩ := shortB_len hsb
    clear hsb
    go_wp2_with fail
    refine (new_k w1 (fun _ => .o) 0 (rm : Int) w1 (by omega) (by omega) (LW.start w1)).mono ?_
    rintro e w2 ⟨D, g2, rfl, d2, L2, -, -⟩
    have hI0 := Inv.new (rm : Int)
    have hA0 : Acc (Md.new (rm : Int)) := Acc.new (by omega) (by omega)
    generalize Md.new (rm : Int) = M0 at *
    have D2 := hide d2
    have L2' := hide L2
    clear d2 L2
    go_wp2
    go_loopw [32] (fun v wr => ∃ (k : Nat) (gk : Nat → Tg), k ≤ l.length ∧ v = .int .i64 (k : Int) ∧ Hid (DK wr gk 0 D (M0.runs (l.take k)) k) ∧ Hid (LW w1 wr gk)) (fun v _ => l.length - (intOf v).toNat)
    case atStart => exact ⟨0, g2, Nat.zero_le _, rfl, D2, L2'⟩
    case round =>
      obtain ⟨k, gk, hk, rfl, HD, HL⟩ := hrel
      by_cases hlt : k < l.length
      · have hlt2 : (k : Int) < (l.length : Int) := by omega
        obtain ⟨d, hd⟩ : ∃ d, l[k]? = some d := ⟨_, List.getElem?_eq_getElem hlt⟩
        obtain ⟨b, off, hp, hc⟩ := hR.mem (by intro e; subst e; simp at hd)
        obtain ⟨a, hv, a0, a1, a2, a3, a4⟩ := hc k d hd
        subst hp
        have cc : ∀ {q : Addr} {v : Value}, w1.cell? q = some v → wr.cell? q = some v := fun {q v} e => by rw [(unhide HL).below.cell (World.block_lt_of_cell? w1 _ e)]; exact e
        have c0 := cc a0
        have c1 := cc a1
        have c2 := cc a2
        have c3 := cc a3
        have c4 := cc a4
        have hbl := hlb d (List.mem_of_getElem? hd)
        have HV := hide hv
        have hMI : Inv (M0.runs (l.take k)) := hI0.runs _
        have hMA : Acc (M0.runs (l.take k)) := hA0.runs hI0 _ (fun e he => by have := hlb e (List.mem_of_mem_take he); omega)
        have HN : Hid (M0.runs (l.take (k + 1)) = (M0.runs (l.take k)).does d) := Md.runs_take _ _ _ _ hd
        have HD2 := unhide HD
        generalize M0.runs (l.take k) = M at *
        obtain ⟨g1, x1, bx1⟩ := bx_new wr gk (.cells #[.int .i64 d.o, .string (str d.n), .slice a.x d.b.length a.c, .int .i64 d.z, .slice a.y d.k.length a.m] 36)
        have D1 := HD2.st x1 (by omega)
        have L1 := (unhide HL).st x1
        clear a0 a1 a2 a3 a4 cc hd hc hv HD2 HD HL x1
        go_wp2_with fail
        refine (clone_k w1 g1 0 1 D M _ _ (by omega) D1 L1 (by omega)).mono ?_
        rintro e w3 ⟨C, g3, rfl, d3, cl3, L3, b3, hg3⟩
        have bx3 := bx1.clone b3 hg3
        have z0 : w3.cell? ⟨wr.heap.size, 0, none⟩ = some (.int .i64 d.o) := by rw [cell_of_row w3 wr.heap.size 0 _ _ _ bx3.1]; rfl
        have z1 : w3.cell? ⟨wr.heap.size, 1, none⟩ = some (.string (str d.n)) := by rw [cell_of_row w3 wr.heap.size 1 _ _ _ bx3.1]; rfl
        have z2 : w3.cell? ⟨wr.heap.size, 2, none⟩ = some (.slice a.x d.b.length a.c) := by rw [cell_of_row w3 wr.heap.size 2 _ _ _ bx3.1]; rfl
        have z3 : w3.cell? ⟨wr.heap.size, 3, none⟩ = some (.int .i64 d.z) := by rw [cell_of_row w3 wr.heap.size 3 _ _ _ bx3.1]; rfl
        have z4 : w3.cell? ⟨wr.heap.size, 4, none⟩ = some (.slice a.y d.k.length a.m) := by rw [cell_of_row w3 wr.heap.size 4 _ _ _ bx3.1]; rfl
        have hV3 := (unhide HV).below L3.below (Nat.le_refl _)
        have BX3 := hide bx3
        clear D1 L1 b3 hg3 bx1 bx3 c0 c1 c2 c3 c4
        go_wp2_with fail
        refine (does_k g3 0 D M _ d a w3 d3 (by omega) hV3 (by omega)).mono ?_
        rintro e w4 ⟨rfl, g4, d4, S4⟩
        have cl4 := cl3.st S4 (by omega)
        have L4 := L3.st S4
        have BX4 := hide ((unhide BX3).st S4)
        have hI4 := hMI.does d
        have hA4 := hMA.does hMI d (by omega)
        have HNot := hide (fun h => does_not (M := M) (d := d) h)
        have HF := hide (fun h => full_more hMA.q (by have := d3.sn; omega) (d := d) (by omega) h)
        generalize M.doesE d = E at *
        generalize M.does d = M' at *
        clear d3 cl3 L3 S4 hV3 BX3 z0 z1 z2 z3 z4
        go_wp2_with fail
        refine (list_k g4 0 D M' _ w4 d4 (by omega)).mono ?_
        rintro e w5 ⟨q1, k1, l1, rfl, n1, o1, hl1, b5⟩
        have D5 := hide (d4.below b5)
        have C5 := hide (cl4.below b5)
        have L5 := hide (L4.bel b5)
        have BX5 := hide ((unhide BX4).below b5)
        have R5 := hide o1.srow
        have hsu := sumR_used hA4.q l1 n1.nd
        have hur := hA4.q.ur
        have hrm2 := hA4.q.rm
        have hu0 := hA4.q.u0
        have hnm : ∀ n ∈ l1, n.length ≤ 24 := fun n hn => n1.le hI4.seen hn
        clear d4 cl4 L4 BX4 n1 o1 b5
        go_wp2
        go_loopw [11, 44] (fun v11 v44 wr => ∃ j m : Nat, j ≤ l1.length ∧ v44 = .int .i64 (j : Int) ∧ v11 = .int .i64 (m : Int) ∧ Hid (m = sumR M' (l1.take j)) ∧ Hid (Below w5.heap.size w5 wr)) (fun _ v44 _ => l1.length - (intOf v44).toNat)
        case atStart => exact ⟨0, 0, Nat.zero_le _, rfl, rfl, rfl, Below.refl _ _⟩
        case round =>
          obtain ⟨j, m, hj, rfl, rfl, HM, HB⟩ := hrel
          have hmb : (m : Int) ≤ M'.used := by have h1 := unhide HM; have h2 := sumR_mono M' l1 j; omega
          have D6 := hide ((unhide D5).below (unhide HB))
          by_cases hlj : j < l1.length
          · have hlj2 : (j : Int) < (l1.length : Int) := by omega
            obtain ⟨s, hs⟩ : ∃ s, l1[j]? = some s := ⟨_, List.getElem?_eq_getElem hlj⟩
            have hmem := List.mem_of_getElem? hs
            obtain ⟨b2, o2, hp2, k2⟩ := ((unhide R5).below (unhide HB) (Nat.le_refl _)) (by intro e; subst e; simp at hs)
            have e1 := k2 j s hs
            subst hp2
            have hs24 := hnm s hmem
            have HM2 : Hid (m + (M'.readB s).length = sumR M' (l1.take (j + 1))) := by show _ = _; rw [sumR_take M' l1 j s hs, unhide HM]
            have hmb2 : ((m + (M'.readB s).length : Nat) : Int) ≤ M'.used := by have h1 := unhide HM2; have h2 := sumR_mono M' l1 (j + 1); omega
            clear k2 hs hmem
            go_wp2_with fail
            refine (read_k g4 0 D M' _ s _ (unhide D6) (by omega) (by unfold maxLen; omega)).mono ?_
            rintro e wB ⟨y, cy, rfl, oy, bB⟩
            have HB2 := hide ((unhide HB).trans (bB.mono (unhide HB).size))
            clear oy bB e1
            go_wp2
            go_roundw
            case rel => exact ⟨j + 1, m + (M'.readB s).length, by omega, by go_num, by go_num, HM2, HB2⟩
            case measure => simp [intOf]; omega
          · obtain rfl : j = l1.length := by omega
            have hg1 : ¬ M'.used < (m : Int) := by omega
            have hg2 : ¬ M'.room < M'.used := by omega
            have C6 := hide ((unhide C5).below (unhide HB))
            have L6 := hide ((unhide L5).bel (unhide HB))
            have BX6 := hide ((unhide BX5).below (unhide HB))
            clear D5 C5 L5 BX5 R5 HB hsu HM
            go_wp2_with fail
            refine (used_k g4 0 D M' _ _ (unhide D6)).mono ?_
            rintro e wx ⟨rfl, rfl⟩
            go_wp2_with fail
            refine (used_k g4 0 D M' _ _ (unhide D6)).mono ?_
            rintro e wx ⟨rfl, rfl⟩
            go_wp2_with fail
            refine (rooms_k g4 0 D M' _ _ (unhide D6)).mono ?_
            rintro e wx ⟨rfl, rfl⟩
            by_cases hE0 : E = 0
            · subst hE0
              go_wp2_with fail
              go_quiet (fail)
              go_wp2
              go_roundw
              case rel => exact ⟨k + 1, g4, by omega, by go_num, by rw [unhide HN]; exact hide ((unhide D6).below (below_drewN (Below.refl _ _) nq)), hide ((unhide L6).bel (below_drewN (Below.refl _ _) nq))⟩
              case measure => simp [intOf]; omega
            · have hM' := unhide HNot hE0
              subst hM'
              have hEb : (E != 0) = true := by simp [hE0]
              go_wp2_with fail
              refine (same_k g4 1 0 C D M' M' _ _ _ (unhide C6) (unhide D6) (by omega) (by omega) hMI rfl).mono ?_
              rintro e w7 ⟨rfl, b7⟩
              have D7 := hide ((unhide D6).below b7)
              have C7 := hide ((unhide C6).below b7)
              have L7 := hide ((unhide L6).bel b7)
              have BX7 := hide ((unhide BX6).below b7)
              clear D6 C6 L6 BX6 b7
              go_wp2_with fail
              refine (used_k g4 1 C M' _ _ (unhide C7)).mono ?_
              rintro e wx ⟨rfl, rfl⟩
              go_wp2_with fail
              refine (used_k g4 0 D M' _ _ (unhide D7)).mono ?_
              rintro e wx ⟨rfl, rfl⟩
              go_wp2_with fail
              refine (pending_k g4 1 C M' _ _ (unhide C7)).mono ?_
              rintro e wx ⟨rfl, rfl⟩
              go_wp2_with fail
              refine (pending_k g4 0 D M' _ _ (unhide D7)).mono ?_
              rintro e wx ⟨rfl, rfl⟩
              have HU := hide (fun n => (unhide C7).below (below_drewN (Below.refl wx.heap.size wx) n))
              by_cases hE7 : E = 7
              · have hmore := unhide HF hE7
                subst hE7
                have hgd : ¬ M'.used + (d.b.length : Int) ≤ M'.room := by omega
                have hgd2 : decide (M'.used + (d.b.length : Int) ≤ M'.room) = false := decide_eq_false hgd
                have hwr : wrap64 (M'.used + (d.b.length : Int)) = M'.used + (d.b.length : Int) := IntWalk.wrap64_in _ (by omega)
                have z2 : wx.cell? ⟨wr.heap.size, 2, none⟩ = some (.slice a.x d.b.length a.c) := by rw [cell_of_row wx wr.heap.size 2 _ _ _ (unhide BX7).1]; rfl
                go_wp2_with fail
                go_quiet (first | (go_at_call 13; exact Calls.quiet_of_same (used_k g4 1 C M' _ _ (unhide HU _))) | (go_at_call 14; exact Calls.quiet_of_same (rooms_k g4 1 C M' _ _ (unhide HU _))))
                go_wp2
                go_roundw
                case rel => exact ⟨k + 1, g4, by omega, by go_num, by rw [unhide HN]; exact hide ((unhide D7).below (below_drewN (Below.refl _ _) nq)), hide ((unhide L7).bel (below_drewN (Below.refl _ _) nq))⟩
                case measure => simp [intOf]; omega
              · have hEb7 : (E == 7) = false := by simp [hE7]
                go_wp2_with fail
                go_quiet (fail)
                go_wp2
                go_roundw
                case rel => exact ⟨k + 1, g4, by omega, by go_num, by rw [unhide HN]; exact hide ((unhide D7).below (below_drewN (Below.refl _ _) nq)), hide ((unhide L7).bel (below_drewN (Below.refl _ _) nq))⟩
                case measure => simp [intOf]; omega
      · obtain rfl : k = l.length := by omega
        go_wp2_with fail
        refine (awake_true _).mono ?_
        rintro e v ⟨rfl, hb⟩
        have hb2 := hide ((unhide HL).below.trans (hb.mono (unhide HL).below.size))
        clear hb
        go_wp2
        go_ret
        exact ⟨rfl, unhide hb2⟩
#print axioms diskRoom_walk
end Go.Proofs.Ytkhpjlgbiicdcaa
