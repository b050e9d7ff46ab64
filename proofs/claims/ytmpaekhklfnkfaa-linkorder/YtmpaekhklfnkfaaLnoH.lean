/-
  THE WALK of LinkOrder.
-/
import Derived.Test.YtmpaekhklfnkfaaLnoI
import Derived.Test.YtmpaekhklfnkfaaEqsZ
import Derived.Deep.DeepCutAuto
import Derived.Deep.CutBlock
import Derived.Deep.RegionLaw
set_option linter.unusedVariables false
namespace Go.Proofs.Ytmpaekhklfnkfaa
open Go.RowKit Go.Maps

theorem op8l (o : Int) : ∃ r : Nat, r < 8 ∧ wrap64 ((IntKind.u64.wrap o).tmod 8) = (r : Int) := by
  have e : IntKind.u64.wrap o = o % 18446744073709551616 := by simp [IntKind.wrap, IntKind.bits, IntKind.signed]
  have h0 : 0 ≤ o % 18446744073709551616 := Int.emod_nonneg _ (by omega)
  have e2 : (o % 18446744073709551616).tmod 8 = o % 18446744073709551616 % 8 := Int.tmod_eq_emod_of_nonneg h0
  refine ⟨(o % 8).toNat, by omega, ?_⟩
  rw [e, e2]
  have e3 : o % 18446744073709551616 % 8 = o % 8 := by omega
  rw [e3, IntWalk.wrap64_in _ (by omega)]
  omega
theorem op2l (o : Int) : ∃ r : Nat, r < 2 ∧ wrap64 ((IntKind.u64.wrap o).tmod 2) = (r : Int) := by
  have e : IntKind.u64.wrap o = o % 18446744073709551616 := by simp [IntKind.wrap, IntKind.bits, IntKind.signed]
  have h0 : 0 ≤ o % 18446744073709551616 := Int.emod_nonneg _ (by omega)
  have e2 : (o % 18446744073709551616).tmod 2 = o % 18446744073709551616 % 2 := Int.tmod_eq_emod_of_nonneg h0
  refine ⟨(o % 2).toNat, by omega, ?_⟩
  rw [e, e2]
  have e3 : o % 18446744073709551616 % 2 = o % 2 := by omega
  rw [e3, IntWalk.wrap64_in _ (by omega)]
  omega

theorem wf_le {a : Int} (h : (Lit.int .i64 a).wf = true) : a ≤ 9223372036854775807 := by
  simp [Lit.wf, IntKind.min, IntKind.max, IntKind.bits, IntKind.signed] at h; omega
def Bz (z : Nat) : Nat := z * 262144
theorem Bz_succ (z : Nat) : Bz (z + 1) = Bz z + 262144 := by unfold Bz; omega
theorem Bz_le (z : Nat) (h : z ≤ 200) : Bz z ≤ 52428800 := by unfold Bz; omega
/-- What was sent is what came and what is on the way. -/
structure LQ (L : Nat → List UInt8) (z : Nat) : Prop where
  q0 : L 3 = L 5 ++ L 0
  q1 : L 2 = L 4 ++ L 1
  b0 : (L 2).length ≤ Bz z
  b1 : (L 3).length ≤ Bz z
theorem LQ.same {L : Nat → List UInt8} {z : Nat} (h : LQ L z) : LQ L (z + 1) := by
  have e := Bz_succ z
  have h0 := h.b0
  have h1 := h.b1
  exact ⟨h.q0, h.q1, by omega, by omega⟩
theorem LQ.send0 {L : Nat → List UInt8} {z : Nat} (h : LQ L z) (d : List UInt8) (hd : d.length ≤ 262144) : LQ (upd (upd L 1 (L 1 ++ d)) 2 (L 2 ++ d)) (z + 1) := by
  have e := Bz_succ z
  have h0 := h.b0
  have h1 := h.b1
  refine ⟨h.q0, ?_, ?_, ?_⟩
  · show L 2 ++ d = L 4 ++ (L 1 ++ d); rw [h.q1]; simp
  · show (L 2 ++ d).length ≤ _; rw [List.length_append]; omega
  · show (L 3).length ≤ _; omega
theorem LQ.send1 {L : Nat → List UInt8} {z : Nat} (h : LQ L z) (d : List UInt8) (hd : d.length ≤ 262144) : LQ (upd (upd L 0 (L 0 ++ d)) 3 (L 3 ++ d)) (z + 1) := by
  have e := Bz_succ z
  have h0 := h.b0
  have h1 := h.b1
  refine ⟨?_, h.q1, ?_, ?_⟩
  · show L 3 ++ d = L 5 ++ (L 0 ++ d); rw [h.q0]; simp
  · show (L 2).length ≤ _; omega
  · show (L 3 ++ d).length ≤ _; rw [List.length_append]; omega
theorem LQ.carry0 {L : Nat → List UInt8} {z : Nat} (h : LQ L z) (r l' : List UInt8) (e : L 0 = r ++ l') : LQ (upd (upd L 0 l') 5 (L 5 ++ r)) z :=
  ⟨by show L 3 = (L 5 ++ r) ++ l'; rw [h.q0, e]; simp, h.q1, h.b0, h.b1⟩
theorem LQ.carry1 {L : Nat → List UInt8} {z : Nat} (h : LQ L z) (r l' : List UInt8) (e : L 1 = r ++ l') : LQ (upd (upd L 1 l') 4 (L 4 ++ r)) z :=
  ⟨h.q0, by show L 2 = (L 4 ++ r) ++ l'; rw [h.q1, e]; simp, h.b0, h.b1⟩
/-- What the law compares. -/
theorem LQ.le {L : Nat → List UInt8} {z : Nat} (h : LQ L z) : (L 4).length ≤ (L 2).length ∧ (L 5).length ≤ (L 3).length ∧ (L 2).take (L 4).length = L 4 ∧ (L 3).take (L 5).length = L 5 := by
  rw [h.q0, h.q1]
  simp

set_option maxRecDepth 20000 in
set_option maxHeartbeats 4000000 in
theorem linkOrder_walk (p : Option Addr) (cp : Nat) (l : List Dl) (w : World) (h : DlR w p l) :
    Calls Try.prog 4 #[.slice p l.length cp] w fun e w' => e = .returned (.bool true) ∧ Below w.heap.size w w' := by
  go_enter Try.func4, Try.ntmps4
  go_wp2_with fail
  refine (short_l p cp l w h).mono ?_
  rintro e w1 ⟨rfl, rfl | ⟨rfl, HS⟩⟩
  · go_wp2_with fail
    refine (awake_true w1).mono ?_
    rintro e w2 ⟨rfl, hb⟩
    go_wp2
    go_ret
    exact ⟨rfl, hb⟩
  · go_wp2_with fail
    refine (new_net w1).mono ?_
    rintro e w2 ⟨N, bm, rfl, hN, hm, hN0, hm0, hb1⟩
    have hs1 := hb1.size
    have lN := (Array.getElem?_eq_some_iff.1 hN).1
    have lm := hm.lt
    go_wp2_with fail
    refine (dial_c N bm 0 0 (.map []) 0 1 w2 ⟨hN, hm⟩ (by omega) (by omega) (by omega) (by omega) (by omega) (by decide) (by omega) (by omega) (by omega)).mono ?_
    rintro e w3 ⟨rfl, hd⟩
    obtain ⟨C, hC, hnt, hcc, hk⟩ := unhide hd
    have hle := h.le
    unfold maxLen at hle
    have HS2 := unhide HS
    have hAt : AtC ((DataW.map []).put (Lit.int IntKind.i64 (0 + 1)) (DataW.lit (Lit.int IntKind.i64 (C : Int)))) 1 C := ⟨Maps.atKey_put_same Maps.isMap_empty (by trivial) _ _, Maps.has_put_same Maps.isMap_empty (by trivial) _⟩
    have hB3 : Below w1.heap.size w1 w3 := hk.below hb1 hs1 (fun j hj => by rcases hj with rfl | rfl <;> omega)
    have hs3 := hB3.size
    have HST : Hid (LB w1 ((w3.alloc (.cells #[.slice none 0 0, .slice none 0 0] 39)).alloc (.cells #[.slice none 0 0, .slice none 0 0] 39)) N bm w3.heap.size (w3.heap.size + 1) C (0 + 1) (0 + 1) ((DataW.map []).put (Lit.int IntKind.i64 (0 + 1)) (DataW.lit (Lit.int IntKind.i64 (C : Int)))) (fun _ => false) (fun _ => none) (fun _ => 0) (fun _ => []) 0) := by
      have q1 : Below w3.heap.size w3 ((w3.alloc (.cells #[.slice none 0 0, .slice none 0 0] 39)).alloc (.cells #[.slice none 0 0, .slice none 0 0] 39)) := ((Below.refl _ _).alloc (Nat.le_refl _) _).alloc (by simp) _
      refine ⟨hB3.trans (q1.mono hs3), hnt.below q1, Con.below (c := fun _ => false) (A := fun _ => none) (K := fun _ => 0) (L := fun _ => []) hcc q1, .inl hAt, ?_, ?_, fun i _ => Cmg.nil _ _, fun i j _ _ _ g hg => by simp [blk] at hg, ⟨hN0, hm0, by omega, hs3, by omega⟩, by omega, ⟨by simp, by simp⟩, by omega⟩
      · rw [Below.heap_alloc (w3.alloc _) _ w3.heap.size (by simp)]
        exact heap_alloc_new w3 _
      · have := heap_alloc_new (w3.alloc (.cells #[.slice none 0 0, .slice none 0 0] 39)) (.cells #[.slice none 0 0, .slice none 0 0] 39)
        simpa using this
    have HQ0 : Hid (LQ (fun _ => []) 0) := ⟨rfl, rfl, by simp, by simp⟩
    have HH := hide h
    clear hN hm hd hnt hcc hk hAt hb1 h
    go_wp2
    generalize hSe : w3.heap.size = S at *
    generalize hRe : S + 1 = R at *
    generalize (w3.alloc (.cells #[.slice none 0 0, .slice none 0 0] 39)).alloc (.cells #[.slice none 0 0, .slice none 0 0] 39) = w4 at *
    go_loopw [31] (fun i wr => ∃ k : Nat, k ≤ l.length ∧ i = .int .i64 (k : Int) ∧ ∃ last n D c A K L, Hid (LB w1 wr N bm S R C last n D c A K L k) ∧ Hid (LQ L k)) (fun i _ => l.length - (intOf i).toNat)
    case atStart => exact ⟨0, Nat.zero_le _, rfl, _, _, _, _, _, _, _, HST, HQ0⟩
    case round =>
      obtain ⟨k, hk, rfl, last, n, D, c, A, K, L, HL, HQ⟩ := hrel
      by_cases hlt : k < l.length
      · obtain ⟨d, hd⟩ : ∃ d, l[k]? = some d := ⟨_, List.getElem?_eq_getElem hlt⟩
        have hk200 : k < 200 := by have := HS2.1; omega
        have hbl := HS2.2 k d hd
        have hbel := (unhide HL).bel
        obtain ⟨b, off, hpe, hc⟩ := (unhide HH).mem (by intro e; subst e; simp at hd)
        subst hpe
        obtain ⟨x, cx, hv, a0, a1, a2, a3, a4⟩ := hc k d hd
        have cc : ∀ {q : Addr} {v : Value}, w1.cell? q = some v → wr.cell? q = some v := fun {q v} e => by rw [hbel.cell (World.block_lt_of_cell? w1 _ e)]; exact e
        have c0 := cc a0
        have c1 := cc a1
        have c2 := cc a2
        have c3 := cc a3
        have c4 := cc a4
        have HV1 := hide hv
        clear a0 a1 a2 a3 a4 cc
        have hlt' : (k : Int) < (l.length : Int) := by omega
        obtain ⟨r8, h8, hr8⟩ := op8l d.o
        obtain ⟨r2, h2, hr2⟩ := op2l d.a
        have hCz := (unhide HL).con.lt
        have hrz : ∀ t, t < 2 → ∀ g, blk (A t) = some g → g < wr.heap.size := fun t ht g hg => (((unhide HL).rows t (by omega)).lt g hg).2
        obtain ⟨wd, hwd⟩ : ∃ wd, wd = wr.alloc (.cells #[.int .i64 d.o, .int .i64 d.i, .int .i64 d.a, .int .i64 d.b, .slice x d.l.length cx] 33) := ⟨_, rfl⟩
        have HBd : Hid (Below wr.heap.size wr wd) := by rw [hwd]; exact (Below.refl _ _).alloc (Nat.le_refl _) _
        have HLd := hide ((unhide HL).below (unhide HBd))
        have hZ : wd.heap[wr.heap.size]? = some (.cells #[.int .i64 d.o, .int .i64 d.i, .int .i64 d.a, .int .i64 d.b, .slice x d.l.length cx] 33 (0, 0)) := by rw [hwd]; exact heap_alloc_new wr _
        have HZ := hide hZ
        have z0 : wd.cell? ⟨wr.heap.size, 0, none⟩ = some (.int .i64 d.o) := by rw [cell_of_row wd wr.heap.size 0 _ _ _ hZ]; rfl
        have z2 : wd.cell? ⟨wr.heap.size, 2, none⟩ = some (.int .i64 d.a) := by rw [cell_of_row wd wr.heap.size 2 _ _ _ hZ]; rfl
        have z3 : wd.cell? ⟨wr.heap.size, 3, none⟩ = some (.int .i64 d.b) := by rw [cell_of_row wd wr.heap.size 3 _ _ _ hZ]; rfl
        have z4 : wd.cell? ⟨wr.heap.size, 4, none⟩ = some (.slice x d.l.length cx) := by rw [cell_of_row wd wr.heap.size 4 _ _ _ hZ]; rfl
        clear hc hd hbel hZ hv HS HST HQ0 HL
        go_upto_block 2 with fail
        rw [← hwd]
        clear hwd c0 c1 c2 c3 c4
        go_cut [10, 44] (fun _ _ wx => ∃ last' n' D' c' A' K' L', Hid (LB w1 wx N bm S R C last' n' D' c' A' K' L' (k + 1)) ∧ Hid (LQ L' (k + 1)))
        case first =>
          match r8, h8 with
          | 0, _ =>
            have hr8 : wrap64 ((IntKind.u64.wrap d.o).tmod 8) = 0 := hr8
            go_wp2_with fail
            refine (dial_lo (unhide HLd) (by omega) d.a d.b).mono ?_
            rintro e w5 ⟨rr, code, last', n', D', rfl, HL5⟩
            go_wp2_with fail
            go_meet
            case rel => exact ⟨_, _, _, _, _, _, _, HL5, hide ((unhide HQ).same)⟩
          | 1, _ =>
            rcases (by omega : r2 = 0 ∨ r2 = 1) with rfl | rfl
            · have hr8 : wrap64 ((IntKind.u64.wrap d.o).tmod 8) = 1 := hr8
              have hr2 : wrap64 ((IntKind.u64.wrap d.a).tmod 2) = 0 := hr2
              go_wp2_with fail
              refine (send_lo (unhide HLd) 0 1 (by omega) 0 rfl x cx d.l ((unhide HV1).l.below (unhide HLd).bel (Nat.le_refl _)) (by omega)).mono ?_
              rintro e w5 (⟨code, rfl, hcode, HL5⟩ | ⟨rfl, HK5, x5, k5, HL5⟩)
              · have hcb : (code == 0) = false := by simp [hcode]
                go_wp2_with fail
                go_meet
                case rel => exact ⟨_, _, _, _, _, _, _, hide ((unhide HL5).more (Nat.le_succ _)), hide ((unhide HQ).same)⟩
              · have hb4 := Bz_le k (by omega)
                have hL2 : (L 2).length ≤ 52428800 := by have h1 := (unhide HQ).b0; omega
                have s0 : w5.cell? ⟨S, 0, none⟩ = some (.slice (A 2) (L 2).length (K 2)) := by rw [cell_of_row w5 S 0 _ _ _ (unhide HL5).sent]; rfl
                have y4 : w5.cell? ⟨wr.heap.size, 4, none⟩ = some (.slice x d.l.length cx) := (World.cell?_of_block (a := ⟨wr.heap.size, 4, none⟩) ((unhide HK5).block wr.heap.size (Array.getElem?_eq_some_iff.1 (unhide HZ)).1 (by rintro (e | e); omega; have := hrz 1 (by omega) _ e; omega))).trans z4
                have HLq : Hid (LB w1 w5.drew N bm S R C last n D c (upd A 1 x5) (upd K 1 k5) (upd L 1 (L 1 ++ d.l)) k) := (unhide HL5).below (Below.refl _ _).drew
                have HCq : Hid (Cmg w5.drew w1.heap.size (A 2) (K 2) (L 2)) := (unhide HLq).rows 2 (by omega)
                have HBq : Hid (Bs w5.drew x cx d.l) := (unhide HV1).l.below (unhide HLq).bel (Nat.le_refl _)
                have HSZ := hide (unhide HLq).bel.size
                go_wp2_with fail
                go_region_law (refine stp_appc _ rfl _ _ rfl w1.heap.size (A 2) (K 2) (L 2) _ rfl rfl (unhide HCq) x cx d.l _ rfl rfl (unhide HBq).row (unhide HBq).nz (by omega) (unhide HSZ) ?_; intro x6 k6 r6 w6 hr6 ho6 hg6 hf6; have m6 := ((unhide HLq).mid (r := 2) (by omega) (unhide hg6)).1; have f6 : w6.frozen? ⟨S, 0, none⟩ = false := frozen_of_row w6 S 0 _ _ m6; have t6 : w6.cell? ⟨S, 0, none⟩ = some (.slice (A 2) (L 2).length (K 2)) := (by rw [cell_of_row w6 S 0 _ _ _ m6]; rfl); clear m6)
                all_goals
                  have HL6 := hide (((unhide HLq).app (B := S) (i := 0) (r := 2) (by simp) (unhide ho6) (unhide hg6) (unhide hf6)).more (Nat.le_succ _))
                  have HQ6 : Hid (LQ (upd (upd L 1 (L 1 ++ d.l)) 2 r6) (k + 1)) := by rw [unhide hr6]; exact (unhide HQ).send0 d.l hbl
                  clear hr6 ho6 hg6 hf6
                  go_wp2_with fail
                  go_meet
                  case rel => exact ⟨_, _, _, _, _, _, _, HL6, HQ6⟩
            · have hr8 : wrap64 ((IntKind.u64.wrap d.o).tmod 8) = 1 := hr8
              have hr2 : wrap64 ((IntKind.u64.wrap d.a).tmod 2) = 1 := hr2
              go_wp2_with fail
              refine (send_lo (unhide HLd) 1 0 (by omega) 1 rfl x cx d.l ((unhide HV1).l.below (unhide HLd).bel (Nat.le_refl _)) (by omega)).mono ?_
              rintro e w5 (⟨code, rfl, hcode, HL5⟩ | ⟨rfl, HK5, x5, k5, HL5⟩)
              · have hcb : (code == 0) = false := by simp [hcode]
                go_wp2_with fail
                go_meet
                case rel => exact ⟨_, _, _, _, _, _, _, hide ((unhide HL5).more (Nat.le_succ _)), hide ((unhide HQ).same)⟩
              · have hb4 := Bz_le k (by omega)
                have hL2 : (L 3).length ≤ 52428800 := by have h1 := (unhide HQ).b1; omega
                have s0 : w5.cell? ⟨S, 1, none⟩ = some (.slice (A 3) (L 3).length (K 3)) := by rw [cell_of_row w5 S 1 _ _ _ (unhide HL5).sent]; rfl
                have y4 : w5.cell? ⟨wr.heap.size, 4, none⟩ = some (.slice x d.l.length cx) := (World.cell?_of_block (a := ⟨wr.heap.size, 4, none⟩) ((unhide HK5).block wr.heap.size (Array.getElem?_eq_some_iff.1 (unhide HZ)).1 (by rintro (e | e); omega; have := hrz 0 (by omega) _ e; omega))).trans z4
                have HLq : Hid (LB w1 w5.drew N bm S R C last n D c (upd A 0 x5) (upd K 0 k5) (upd L 0 (L 0 ++ d.l)) k) := (unhide HL5).below (Below.refl _ _).drew
                have HCq : Hid (Cmg w5.drew w1.heap.size (A 3) (K 3) (L 3)) := (unhide HLq).rows 3 (by omega)
                have HBq : Hid (Bs w5.drew x cx d.l) := (unhide HV1).l.below (unhide HLq).bel (Nat.le_refl _)
                have HSZ := hide (unhide HLq).bel.size
                go_wp2_with fail
                go_region_law (refine stp_appc _ rfl _ _ rfl w1.heap.size (A 3) (K 3) (L 3) _ rfl rfl (unhide HCq) x cx d.l _ rfl rfl (unhide HBq).row (unhide HBq).nz (by omega) (unhide HSZ) ?_; intro x6 k6 r6 w6 hr6 ho6 hg6 hf6; have m6 := ((unhide HLq).mid (r := 3) (by omega) (unhide hg6)).1; have f6 : w6.frozen? ⟨S, 1, none⟩ = false := frozen_of_row w6 S 1 _ _ m6; have t6 : w6.cell? ⟨S, 1, none⟩ = some (.slice (A 3) (L 3).length (K 3)) := (by rw [cell_of_row w6 S 1 _ _ _ m6]; rfl); clear m6)
                all_goals
                  have HL6 := hide (((unhide HLq).app (B := S) (i := 1) (r := 3) (by simp) (unhide ho6) (unhide hg6) (unhide hf6)).more (Nat.le_succ _))
                  have HQ6 : Hid (LQ (upd (upd L 0 (L 0 ++ d.l)) 3 r6) (k + 1)) := by rw [unhide hr6]; exact (unhide HQ).send1 d.l hbl
                  clear hr6 ho6 hg6 hf6
                  go_wp2_with fail
                  go_meet
                  case rel => exact ⟨_, _, _, _, _, _, _, HL6, HQ6⟩
          | 2, _ =>
            rcases (by omega : r2 = 0 ∨ r2 = 1) with rfl | rfl
            · have hr8 : wrap64 ((IntKind.u64.wrap d.o).tmod 8) = 2 := hr8
              have hr2 : wrap64 ((IntKind.u64.wrap d.a).tmod 2) = 0 := hr2
              go_wp2_with fail
              refine (send_lo (unhide HLd) 0 1 (by omega) 0 rfl x cx d.l ((unhide HV1).l.below (unhide HLd).bel (Nat.le_refl _)) (by omega)).mono ?_
              rintro e w5 (⟨code, rfl, hcode, HL5⟩ | ⟨rfl, HK5, x5, k5, HL5⟩)
              · have hcb : (code == 0) = false := by simp [hcode]
                go_wp2_with fail
                go_meet
                case rel => exact ⟨_, _, _, _, _, _, _, hide ((unhide HL5).more (Nat.le_succ _)), hide ((unhide HQ).same)⟩
              · have hb4 := Bz_le k (by omega)
                have hL2 : (L 2).length ≤ 52428800 := by have h1 := (unhide HQ).b0; omega
                have s0 : w5.cell? ⟨S, 0, none⟩ = some (.slice (A 2) (L 2).length (K 2)) := by rw [cell_of_row w5 S 0 _ _ _ (unhide HL5).sent]; rfl
                have y4 : w5.cell? ⟨wr.heap.size, 4, none⟩ = some (.slice x d.l.length cx) := (World.cell?_of_block (a := ⟨wr.heap.size, 4, none⟩) ((unhide HK5).block wr.heap.size (Array.getElem?_eq_some_iff.1 (unhide HZ)).1 (by rintro (e | e); omega; have := hrz 1 (by omega) _ e; omega))).trans z4
                have HLq : Hid (LB w1 w5.drew N bm S R C last n D c (upd A 1 x5) (upd K 1 k5) (upd L 1 (L 1 ++ d.l)) k) := (unhide HL5).below (Below.refl _ _).drew
                have HCq : Hid (Cmg w5.drew w1.heap.size (A 2) (K 2) (L 2)) := (unhide HLq).rows 2 (by omega)
                have HBq : Hid (Bs w5.drew x cx d.l) := (unhide HV1).l.below (unhide HLq).bel (Nat.le_refl _)
                have HSZ := hide (unhide HLq).bel.size
                go_wp2_with fail
                go_region_law (refine stp_appc _ rfl _ _ rfl w1.heap.size (A 2) (K 2) (L 2) _ rfl rfl (unhide HCq) x cx d.l _ rfl rfl (unhide HBq).row (unhide HBq).nz (by omega) (unhide HSZ) ?_; intro x6 k6 r6 w6 hr6 ho6 hg6 hf6; have m6 := ((unhide HLq).mid (r := 2) (by omega) (unhide hg6)).1; have f6 : w6.frozen? ⟨S, 0, none⟩ = false := frozen_of_row w6 S 0 _ _ m6; have t6 : w6.cell? ⟨S, 0, none⟩ = some (.slice (A 2) (L 2).length (K 2)) := (by rw [cell_of_row w6 S 0 _ _ _ m6]; rfl); clear m6)
                all_goals
                  have HL6 := hide (((unhide HLq).app (B := S) (i := 0) (r := 2) (by simp) (unhide ho6) (unhide hg6) (unhide hf6)).more (Nat.le_succ _))
                  have HQ6 : Hid (LQ (upd (upd L 1 (L 1 ++ d.l)) 2 r6) (k + 1)) := by rw [unhide hr6]; exact (unhide HQ).send0 d.l hbl
                  clear hr6 ho6 hg6 hf6
                  go_wp2_with fail
                  go_meet
                  case rel => exact ⟨_, _, _, _, _, _, _, HL6, HQ6⟩
            · have hr8 : wrap64 ((IntKind.u64.wrap d.o).tmod 8) = 2 := hr8
              have hr2 : wrap64 ((IntKind.u64.wrap d.a).tmod 2) = 1 := hr2
              go_wp2_with fail
              refine (send_lo (unhide HLd) 1 0 (by omega) 1 rfl x cx d.l ((unhide HV1).l.below (unhide HLd).bel (Nat.le_refl _)) (by omega)).mono ?_
              rintro e w5 (⟨code, rfl, hcode, HL5⟩ | ⟨rfl, HK5, x5, k5, HL5⟩)
              · have hcb : (code == 0) = false := by simp [hcode]
                go_wp2_with fail
                go_meet
                case rel => exact ⟨_, _, _, _, _, _, _, hide ((unhide HL5).more (Nat.le_succ _)), hide ((unhide HQ).same)⟩
              · have hb4 := Bz_le k (by omega)
                have hL2 : (L 3).length ≤ 52428800 := by have h1 := (unhide HQ).b1; omega
                have s0 : w5.cell? ⟨S, 1, none⟩ = some (.slice (A 3) (L 3).length (K 3)) := by rw [cell_of_row w5 S 1 _ _ _ (unhide HL5).sent]; rfl
                have y4 : w5.cell? ⟨wr.heap.size, 4, none⟩ = some (.slice x d.l.length cx) := (World.cell?_of_block (a := ⟨wr.heap.size, 4, none⟩) ((unhide HK5).block wr.heap.size (Array.getElem?_eq_some_iff.1 (unhide HZ)).1 (by rintro (e | e); omega; have := hrz 0 (by omega) _ e; omega))).trans z4
                have HLq : Hid (LB w1 w5.drew N bm S R C last n D c (upd A 0 x5) (upd K 0 k5) (upd L 0 (L 0 ++ d.l)) k) := (unhide HL5).below (Below.refl _ _).drew
                have HCq : Hid (Cmg w5.drew w1.heap.size (A 3) (K 3) (L 3)) := (unhide HLq).rows 3 (by omega)
                have HBq : Hid (Bs w5.drew x cx d.l) := (unhide HV1).l.below (unhide HLq).bel (Nat.le_refl _)
                have HSZ := hide (unhide HLq).bel.size
                go_wp2_with fail
                go_region_law (refine stp_appc _ rfl _ _ rfl w1.heap.size (A 3) (K 3) (L 3) _ rfl rfl (unhide HCq) x cx d.l _ rfl rfl (unhide HBq).row (unhide HBq).nz (by omega) (unhide HSZ) ?_; intro x6 k6 r6 w6 hr6 ho6 hg6 hf6; have m6 := ((unhide HLq).mid (r := 3) (by omega) (unhide hg6)).1; have f6 : w6.frozen? ⟨S, 1, none⟩ = false := frozen_of_row w6 S 1 _ _ m6; have t6 : w6.cell? ⟨S, 1, none⟩ = some (.slice (A 3) (L 3).length (K 3)) := (by rw [cell_of_row w6 S 1 _ _ _ m6]; rfl); clear m6)
                all_goals
                  have HL6 := hide (((unhide HLq).app (B := S) (i := 1) (r := 3) (by simp) (unhide ho6) (unhide hg6) (unhide hf6)).more (Nat.le_succ _))
                  have HQ6 : Hid (LQ (upd (upd L 0 (L 0 ++ d.l)) 3 r6) (k + 1)) := by rw [unhide hr6]; exact (unhide HQ).send1 d.l hbl
                  clear hr6 ho6 hg6 hf6
                  go_wp2_with fail
                  go_meet
                  case rel => exact ⟨_, _, _, _, _, _, _, HL6, HQ6⟩
          | 3, _ =>
            rcases (by omega : r2 = 0 ∨ r2 = 1) with rfl | rfl
            · have hr8 : wrap64 ((IntKind.u64.wrap d.o).tmod 8) = 3 := hr8
              have hr2 : wrap64 ((IntKind.u64.wrap d.a).tmod 2) = 0 := hr2
              go_wp2_with fail
              refine (carry_lo (unhide HLd) 0 (by omega) 0 rfl d.b (wf_le (unhide HV1).b)).mono ?_
              rintro e w5 ⟨a5, cap5, r5, code, rfl, ho5, x5, k5, l5, D5, HL5, HE5, -⟩
              have hb4 := Bz_le k (by omega)
              have hL2 : (L 5).length ≤ 52428800 := by have h1 := (unhide HQ).b1; have h2 := (unhide HQ).le; omega
              have hr5l : r5.length ≤ 131072 := by
                have h1 := (unhide HLd).lq
                have h2 := congrArg List.length (unhide HE5)
                rw [List.length_append] at h2
                omega
              have s0 : w5.cell? ⟨R, 1, none⟩ = some (.slice (A 5) (L 5).length (K 5)) := by rw [cell_of_row w5 R 1 _ _ _ (unhide HL5).came]; rfl
              have HCq : Hid (Cmg w5 w1.heap.size (A 5) (K 5) (L 5)) := (unhide HL5).rows 5 (by omega)
              have HBq := hide (unhide ho5).toBs
              have HSZ := hide (unhide HL5).bel.size
              go_wp2_with (at_builtin; refine wp_appc _ rfl _ _ rfl w1.heap.size (A 5) (K 5) (L 5) _ rfl rfl (unhide HCq) a5 cap5 r5 _ rfl rfl (unhide HBq).row (unhide HBq).nz (by omega) (unhide HSZ) ?_)
              intro x6 k6 r6 w6 hr6 ho6 hg6 hf6
              have m6 := ((unhide HL5).mid (r := 5) (by omega) (unhide hg6)).2
              have f6 : w6.frozen? ⟨R, 1, none⟩ = false := frozen_of_row w6 R 1 _ _ m6
              have t6 : w6.cell? ⟨R, 1, none⟩ = some (.slice (A 5) (L 5).length (K 5)) := by rw [cell_of_row w6 R 1 _ _ _ m6]; rfl
              have HL6 := hide (((unhide HL5).app (B := R) (i := 1) (r := 5) (by simp) (unhide ho6) (unhide hg6) (unhide hf6)).more (Nat.le_succ _))
              have HQ6 : Hid (LQ (upd (upd L 0 l5) 5 r6) (k + 1)) := by rw [unhide hr6]; exact ((unhide HQ).carry0 r5 l5 (unhide HE5)).same
              clear hr6 ho6 hg6 hf6 m6
              go_wp2_with fail
              go_meet
              case rel => exact ⟨_, _, _, _, _, _, _, HL6, HQ6⟩
            · have hr8 : wrap64 ((IntKind.u64.wrap d.o).tmod 8) = 3 := hr8
              have hr2 : wrap64 ((IntKind.u64.wrap d.a).tmod 2) = 1 := hr2
              go_wp2_with fail
              refine (carry_lo (unhide HLd) 1 (by omega) 1 rfl d.b (wf_le (unhide HV1).b)).mono ?_
              rintro e w5 ⟨a5, cap5, r5, code, rfl, ho5, x5, k5, l5, D5, HL5, HE5, -⟩
              have hb4 := Bz_le k (by omega)
              have hL2 : (L 4).length ≤ 52428800 := by have h1 := (unhide HQ).b0; have h2 := (unhide HQ).le; omega
              have hr5l : r5.length ≤ 131072 := by
                have h1 := (unhide HLd).lq
                have h2 := congrArg List.length (unhide HE5)
                rw [List.length_append] at h2
                omega
              have s0 : w5.cell? ⟨R, 0, none⟩ = some (.slice (A 4) (L 4).length (K 4)) := by rw [cell_of_row w5 R 0 _ _ _ (unhide HL5).came]; rfl
              have HCq : Hid (Cmg w5 w1.heap.size (A 4) (K 4) (L 4)) := (unhide HL5).rows 4 (by omega)
              have HBq := hide (unhide ho5).toBs
              have HSZ := hide (unhide HL5).bel.size
              go_wp2_with (at_builtin; refine wp_appc _ rfl _ _ rfl w1.heap.size (A 4) (K 4) (L 4) _ rfl rfl (unhide HCq) a5 cap5 r5 _ rfl rfl (unhide HBq).row (unhide HBq).nz (by omega) (unhide HSZ) ?_)
              intro x6 k6 r6 w6 hr6 ho6 hg6 hf6
              have m6 := ((unhide HL5).mid (r := 4) (by omega) (unhide hg6)).2
              have f6 : w6.frozen? ⟨R, 0, none⟩ = false := frozen_of_row w6 R 0 _ _ m6
              have t6 : w6.cell? ⟨R, 0, none⟩ = some (.slice (A 4) (L 4).length (K 4)) := by rw [cell_of_row w6 R 0 _ _ _ m6]; rfl
              have HL6 := hide (((unhide HL5).app (B := R) (i := 0) (r := 4) (by simp) (unhide ho6) (unhide hg6) (unhide hf6)).more (Nat.le_succ _))
              have HQ6 : Hid (LQ (upd (upd L 1 l5) 4 r6) (k + 1)) := by rw [unhide hr6]; exact ((unhide HQ).carry1 r5 l5 (unhide HE5)).same
              clear hr6 ho6 hg6 hf6 m6
              go_wp2_with fail
              go_meet
              case rel => exact ⟨_, _, _, _, _, _, _, HL6, HQ6⟩
          | 4, _ =>
            rcases (by omega : r2 = 0 ∨ r2 = 1) with rfl | rfl
            · have hr8 : wrap64 ((IntKind.u64.wrap d.o).tmod 8) = 4 := hr8
              have hr2 : wrap64 ((IntKind.u64.wrap d.a).tmod 2) = 0 := hr2
              go_wp2_with fail
              refine (carry_lo (unhide HLd) 0 (by omega) 0 rfl d.b (wf_le (unhide HV1).b)).mono ?_
              rintro e w5 ⟨a5, cap5, r5, code, rfl, ho5, x5, k5, l5, D5, HL5, HE5, -⟩
              have hb4 := Bz_le k (by omega)
              have hL2 : (L 5).length ≤ 52428800 := by have h1 := (unhide HQ).b1; have h2 := (unhide HQ).le; omega
              have hr5l : r5.length ≤ 131072 := by
                have h1 := (unhide HLd).lq
                have h2 := congrArg List.length (unhide HE5)
                rw [List.length_append] at h2
                omega
              have s0 : w5.cell? ⟨R, 1, none⟩ = some (.slice (A 5) (L 5).length (K 5)) := by rw [cell_of_row w5 R 1 _ _ _ (unhide HL5).came]; rfl
              have HCq : Hid (Cmg w5 w1.heap.size (A 5) (K 5) (L 5)) := (unhide HL5).rows 5 (by omega)
              have HBq := hide (unhide ho5).toBs
              have HSZ := hide (unhide HL5).bel.size
              go_wp2_with (at_builtin; refine wp_appc _ rfl _ _ rfl w1.heap.size (A 5) (K 5) (L 5) _ rfl rfl (unhide HCq) a5 cap5 r5 _ rfl rfl (unhide HBq).row (unhide HBq).nz (by omega) (unhide HSZ) ?_)
              intro x6 k6 r6 w6 hr6 ho6 hg6 hf6
              have m6 := ((unhide HL5).mid (r := 5) (by omega) (unhide hg6)).2
              have f6 : w6.frozen? ⟨R, 1, none⟩ = false := frozen_of_row w6 R 1 _ _ m6
              have t6 : w6.cell? ⟨R, 1, none⟩ = some (.slice (A 5) (L 5).length (K 5)) := by rw [cell_of_row w6 R 1 _ _ _ m6]; rfl
              have HL6 := hide (((unhide HL5).app (B := R) (i := 1) (r := 5) (by simp) (unhide ho6) (unhide hg6) (unhide hf6)).more (Nat.le_succ _))
              have HQ6 : Hid (LQ (upd (upd L 0 l5) 5 r6) (k + 1)) := by rw [unhide hr6]; exact ((unhide HQ).carry0 r5 l5 (unhide HE5)).same
              clear hr6 ho6 hg6 hf6 m6
              go_wp2_with fail
              go_meet
              case rel => exact ⟨_, _, _, _, _, _, _, HL6, HQ6⟩
            · have hr8 : wrap64 ((IntKind.u64.wrap d.o).tmod 8) = 4 := hr8
              have hr2 : wrap64 ((IntKind.u64.wrap d.a).tmod 2) = 1 := hr2
              go_wp2_with fail
              refine (carry_lo (unhide HLd) 1 (by omega) 1 rfl d.b (wf_le (unhide HV1).b)).mono ?_
              rintro e w5 ⟨a5, cap5, r5, code, rfl, ho5, x5, k5, l5, D5, HL5, HE5, -⟩
              have hb4 := Bz_le k (by omega)
              have hL2 : (L 4).length ≤ 52428800 := by have h1 := (unhide HQ).b0; have h2 := (unhide HQ).le; omega
              have hr5l : r5.length ≤ 131072 := by
                have h1 := (unhide HLd).lq
                have h2 := congrArg List.length (unhide HE5)
                rw [List.length_append] at h2
                omega
              have s0 : w5.cell? ⟨R, 0, none⟩ = some (.slice (A 4) (L 4).length (K 4)) := by rw [cell_of_row w5 R 0 _ _ _ (unhide HL5).came]; rfl
              have HCq : Hid (Cmg w5 w1.heap.size (A 4) (K 4) (L 4)) := (unhide HL5).rows 4 (by omega)
              have HBq := hide (unhide ho5).toBs
              have HSZ := hide (unhide HL5).bel.size
              go_wp2_with (at_builtin; refine wp_appc _ rfl _ _ rfl w1.heap.size (A 4) (K 4) (L 4) _ rfl rfl (unhide HCq) a5 cap5 r5 _ rfl rfl (unhide HBq).row (unhide HBq).nz (by omega) (unhide HSZ) ?_)
              intro x6 k6 r6 w6 hr6 ho6 hg6 hf6
              have m6 := ((unhide HL5).mid (r := 4) (by omega) (unhide hg6)).2
              have f6 : w6.frozen? ⟨R, 0, none⟩ = false := frozen_of_row w6 R 0 _ _ m6
              have t6 : w6.cell? ⟨R, 0, none⟩ = some (.slice (A 4) (L 4).length (K 4)) := by rw [cell_of_row w6 R 0 _ _ _ m6]; rfl
              have HL6 := hide (((unhide HL5).app (B := R) (i := 0) (r := 4) (by simp) (unhide ho6) (unhide hg6) (unhide hf6)).more (Nat.le_succ _))
              have HQ6 : Hid (LQ (upd (upd L 1 l5) 4 r6) (k + 1)) := by rw [unhide hr6]; exact ((unhide HQ).carry1 r5 l5 (unhide HE5)).same
              clear hr6 ho6 hg6 hf6 m6
              go_wp2_with fail
              go_meet
              case rel => exact ⟨_, _, _, _, _, _, _, HL6, HQ6⟩
          | 5, _ =>
            rcases (by omega : r2 = 0 ∨ r2 = 1) with rfl | rfl
            · have hr8 : wrap64 ((IntKind.u64.wrap d.o).tmod 8) = 5 := hr8
              have hr2 : wrap64 ((IntKind.u64.wrap d.a).tmod 2) = 0 := hr2
              go_wp2_with fail
              refine (close_lo (unhide HLd) 0 (by omega) 0 rfl).mono ?_
              rintro e w5 ⟨code, D5, c5, rfl, HL5⟩
              go_wp2_with fail
              go_meet
              case rel => exact ⟨_, _, _, _, _, _, _, hide ((unhide HL5).more (Nat.le_succ _)), hide ((unhide HQ).same)⟩
            · have hr8 : wrap64 ((IntKind.u64.wrap d.o).tmod 8) = 5 := hr8
              have hr2 : wrap64 ((IntKind.u64.wrap d.a).tmod 2) = 1 := hr2
              go_wp2_with fail
              refine (close_lo (unhide HLd) 1 (by omega) 1 rfl).mono ?_
              rintro e w5 ⟨code, D5, c5, rfl, HL5⟩
              go_wp2_with fail
              go_meet
              case rel => exact ⟨_, _, _, _, _, _, _, hide ((unhide HL5).more (Nat.le_succ _)), hide ((unhide HQ).same)⟩
          | 6, _ =>
            have hr8 : wrap64 ((IntKind.u64.wrap d.o).tmod 8) = 6 := hr8
            go_wp2_with fail
            go_meet
            case rel => exact ⟨_, _, _, _, _, _, _, hide ((unhide HLd).more (Nat.le_succ _)), hide ((unhide HQ).same)⟩
          | 7, _ =>
            have hr8 : wrap64 ((IntKind.u64.wrap d.o).tmod 8) = 7 := hr8
            go_wp2_with fail
            go_meet
            case rel => exact ⟨_, _, _, _, _, _, _, hide ((unhide HLd).more (Nat.le_succ _)), hide ((unhide HQ).same)⟩
        case rest =>
          obtain ⟨last', n', D', c', A', K', L', HLc, HQc⟩ := hcut
          have hbz := Bz_le (k + 1) (by omega)
          obtain ⟨hl0, hl1, hle0, hle1⟩ := (unhide HQc).le
          have hm0' := (unhide HQc).b0
          have hm1' := (unhide HQc).b1
          go_wp2
          go_loopw [98] (fun j wi => ∃ q : Nat, q ≤ 2 ∧ j = .int .i64 (q : Int) ∧ Hid (LB w1 wi N bm S R C last' n' D' c' A' K' L' (k + 1))) (fun j _ => 2 - (intOf j).toNat)
          case atStart => exact ⟨0, by omega, rfl, HLc⟩
          case round =>
            obtain ⟨q, hq, rfl, HLi⟩ := hrel
            rcases (by omega : q = 0 ∨ q = 1 ∨ q = 2) with rfl | rfl | rfl
            · rw [show ((0 : Nat) : Int) = 0 from rfl]
              have s0 : wr.cell? ⟨S, 0, none⟩ = some (.slice (A' 2) (L' 2).length (K' 2)) := by rw [cell_of_row wr S 0 _ _ _ (unhide HLi).sent]; rfl
              have m0 : wr.cell? ⟨R, 0, none⟩ = some (.slice (A' 4) (L' 4).length (K' 4)) := by rw [cell_of_row wr R 0 _ _ _ (unhide HLi).came]; rfl
              have hrs := ((unhide HLi).rows 2 (by omega)).toBs
              have hrr := ((unhide HLi).rows 4 (by omega)).toBs
              have hls := hrs.le
              have hmo := hrs.most
              obtain ⟨xh, hh, hhB, -⟩ := cut_head (A' 2) (L' 2).length (K' 2) (L' 4).length (L' 2) (by omega) hls (fun h => by obtain ⟨b, off, e, _⟩ := hrs.row h; exact ⟨b, off, e⟩)
              have HR1 : Hid (∀ n, Row (wr.drewN n) (A' 4) (L' 4)) := fun n => hrr.row.below (below_drewN (Below.refl _ _) n) (Nat.le_refl _)
              have HR2 : Hid (∀ n, Row (wr.drewN n) xh ((L' 2).take (L' 4).length)) := fun n => (hhB wr hrs).row.below (below_drewN (Below.refl _ _) n) (Nat.le_refl _)
              have hgd : ¬ ((L' 2).length : Int) < ((L' 4).length : Int) := by omega
              have hEq : (L' 4 == (L' 2).take (L' 4).length) = true := by rw [hle0]; simp
              have HTl : Hid ((L' 4).length = ((L' 2).take (L' 4).length).length) := by show _ = _; simp; omega
              clear hrs hrr hhB
              go_wp2_with fail
              go_quiet ((go_at_call 17; exact Calls.quiet_of (eqs_z (A' 4) (K' 4) (L' 4) xh (K' 2) ((L' 2).take (L' 4).length) (L' 4).length (L' 4).length _ (unhide HR1 _) (unhide HR2 _) (hide rfl) HTl (by omega) (by omega))))
              go_wp2
              go_roundw
              case rel => exact ⟨1, by omega, by go_num, hide ((unhide HLi).below (below_drewN (Below.refl _ _) nq))⟩
              case measure => simp [intOf]
            · rw [show ((1 : Nat) : Int) = 1 from rfl]
              have s0 : wr.cell? ⟨S, 1, none⟩ = some (.slice (A' 3) (L' 3).length (K' 3)) := by rw [cell_of_row wr S 1 _ _ _ (unhide HLi).sent]; rfl
              have m0 : wr.cell? ⟨R, 1, none⟩ = some (.slice (A' 5) (L' 5).length (K' 5)) := by rw [cell_of_row wr R 1 _ _ _ (unhide HLi).came]; rfl
              have hrs := ((unhide HLi).rows 3 (by omega)).toBs
              have hrr := ((unhide HLi).rows 5 (by omega)).toBs
              have hls := hrs.le
              have hmo := hrs.most
              obtain ⟨xh, hh, hhB, -⟩ := cut_head (A' 3) (L' 3).length (K' 3) (L' 5).length (L' 3) (by omega) hls (fun h => by obtain ⟨b, off, e, _⟩ := hrs.row h; exact ⟨b, off, e⟩)
              have HR1 : Hid (∀ n, Row (wr.drewN n) (A' 5) (L' 5)) := fun n => hrr.row.below (below_drewN (Below.refl _ _) n) (Nat.le_refl _)
              have HR2 : Hid (∀ n, Row (wr.drewN n) xh ((L' 3).take (L' 5).length)) := fun n => (hhB wr hrs).row.below (below_drewN (Below.refl _ _) n) (Nat.le_refl _)
              have hgd : ¬ ((L' 3).length : Int) < ((L' 5).length : Int) := by omega
              have hEq : (L' 5 == (L' 3).take (L' 5).length) = true := by rw [hle1]; simp
              have HTl : Hid ((L' 5).length = ((L' 3).take (L' 5).length).length) := by show _ = _; simp; omega
              clear hrs hrr hhB
              go_wp2_with fail
              go_quiet ((go_at_call 17; exact Calls.quiet_of (eqs_z (A' 5) (K' 5) (L' 5) xh (K' 3) ((L' 3).take (L' 5).length) (L' 5).length (L' 5).length _ (unhide HR1 _) (unhide HR2 _) (hide rfl) HTl (by omega) (by omega))))
              go_wp2
              go_roundw
              case rel => exact ⟨2, by omega, by go_num, hide ((unhide HLi).below (below_drewN (Below.refl _ _) nq))⟩
              case measure => simp [intOf]
            · rw [show ((2 : Nat) : Int) = 2 from rfl]
              go_wp2
              go_roundw
              case rel =>
                exact ⟨k + 1, by omega, by go_num, last', n', D', c', A', K', L', HLi, HQc⟩
              case measure => simp [intOf]; omega
      · obtain rfl : k = l.length := by omega
        have hle' : ¬ (l.length : Int) < (l.length : Int) := by omega
        have hbz := Bz_le l.length HS2.1
        go_wp2
        go_loopw [127] (fun j wi => ∃ q : Nat, q ≤ 2 ∧ j = .int .i64 (q : Int) ∧ ∃ last' n' D' c' A' K' L', Hid (LB w1 wi N bm S R C last' n' D' c' A' K' L' l.length) ∧ Hid (LQ L' l.length) ∧ Hid (1 ≤ q → L' 1 = []) ∧ Hid (2 ≤ q → L' 0 = [])) (fun j _ => 2 - (intOf j).toNat)
        case atStart => exact ⟨0, by omega, rfl, _, _, _, _, _, _, _, HL, HQ, (fun h => by omega), (fun h => by omega)⟩
        case round =>
          obtain ⟨q, hq, rfl, last', n', D', c', A', K', L', HLi, HQi, H1, H2⟩ := hrel
          rcases (by omega : q = 0 ∨ q = 1 ∨ q = 2) with rfl | rfl | rfl
          · rw [show ((0 : Nat) : Int) = 0 from rfl]
            go_wp2_with fail
            refine (carry_lo (unhide HLi) 1 (by omega) 1 rfl 1048576 (by omega)).mono ?_
            rintro e w5 ⟨a5, cap5, r5, code, rfl, ho5, x5, k5, l5, D5, HL5, HE5, HZ5⟩
            have hl5 := unhide HZ5 rfl
            subst hl5
            have hL2 : (L' 4).length ≤ 52428800 := by have h1 := (unhide HQi).b0; have h2 := (unhide HQi).le; omega
            have hr5l : r5.length ≤ 131072 := by
              have h1 := (unhide HLi).lq
              have h2 := congrArg List.length (unhide HE5)
              rw [List.length_append] at h2
              omega
            have s0 : w5.cell? ⟨R, 0, none⟩ = some (.slice (A' 4) (L' 4).length (K' 4)) := by rw [cell_of_row w5 R 0 _ _ _ (unhide HL5).came]; rfl
            have HCq : Hid (Cmg w5 w1.heap.size (A' 4) (K' 4) (L' 4)) := (unhide HL5).rows 4 (by omega)
            have HBq := hide (unhide ho5).toBs
            have HSZ := hide (unhide HL5).bel.size
            go_wp2_with (at_builtin; refine wp_appc _ rfl _ _ rfl w1.heap.size (A' 4) (K' 4) (L' 4) _ rfl rfl (unhide HCq) a5 cap5 r5 _ rfl rfl (unhide HBq).row (unhide HBq).nz (by omega) (unhide HSZ) ?_)
            intro x6 k6 r6 w6 hr6 ho6 hg6 hf6
            have m6 := ((unhide HL5).mid (r := 4) (by omega) (unhide hg6)).2
            have f6 : w6.frozen? ⟨R, 0, none⟩ = false := frozen_of_row w6 R 0 _ _ m6
            have t6 : w6.cell? ⟨R, 0, none⟩ = some (.slice (A' 4) (L' 4).length (K' 4)) := by rw [cell_of_row w6 R 0 _ _ _ m6]; rfl
            have HL6 := hide ((unhide HL5).app (B := R) (i := 0) (r := 4) (by simp) (unhide ho6) (unhide hg6) (unhide hf6))
            have HQ6 : Hid (LQ (upd (upd L' 1 []) 4 r6) l.length) := by rw [unhide hr6]; exact (unhide HQi).carry1 r5 [] (unhide HE5)
            clear hr6 ho6 hg6 hf6 m6
            go_wp2
            go_roundw
            case rel => exact ⟨1, by omega, by go_num, _, _, _, _, _, _, _, HL6, HQ6, (fun _ => rfl), (fun h => by omega)⟩
            case measure => simp [intOf]
          · rw [show ((1 : Nat) : Int) = 1 from rfl]
            go_wp2_with fail
            refine (carry_lo (unhide HLi) 0 (by omega) 0 rfl 1048576 (by omega)).mono ?_
            rintro e w5 ⟨a5, cap5, r5, code, rfl, ho5, x5, k5, l5, D5, HL5, HE5, HZ5⟩
            have hl5 := unhide HZ5 rfl
            subst hl5
            have hL2 : (L' 5).length ≤ 52428800 := by have h1 := (unhide HQi).b1; have h2 := (unhide HQi).le; omega
            have hr5l : r5.length ≤ 131072 := by
              have h1 := (unhide HLi).lq
              have h2 := congrArg List.length (unhide HE5)
              rw [List.length_append] at h2
              omega
            have s0 : w5.cell? ⟨R, 1, none⟩ = some (.slice (A' 5) (L' 5).length (K' 5)) := by rw [cell_of_row w5 R 1 _ _ _ (unhide HL5).came]; rfl
            have HCq : Hid (Cmg w5 w1.heap.size (A' 5) (K' 5) (L' 5)) := (unhide HL5).rows 5 (by omega)
            have HBq := hide (unhide ho5).toBs
            have HSZ := hide (unhide HL5).bel.size
            go_wp2_with (at_builtin; refine wp_appc _ rfl _ _ rfl w1.heap.size (A' 5) (K' 5) (L' 5) _ rfl rfl (unhide HCq) a5 cap5 r5 _ rfl rfl (unhide HBq).row (unhide HBq).nz (by omega) (unhide HSZ) ?_)
            intro x6 k6 r6 w6 hr6 ho6 hg6 hf6
            have m6 := ((unhide HL5).mid (r := 5) (by omega) (unhide hg6)).2
            have f6 : w6.frozen? ⟨R, 1, none⟩ = false := frozen_of_row w6 R 1 _ _ m6
            have t6 : w6.cell? ⟨R, 1, none⟩ = some (.slice (A' 5) (L' 5).length (K' 5)) := by rw [cell_of_row w6 R 1 _ _ _ m6]; rfl
            have HL6 := hide ((unhide HL5).app (B := R) (i := 1) (r := 5) (by simp) (unhide ho6) (unhide hg6) (unhide hf6))
            have HQ6 : Hid (LQ (upd (upd L' 0 []) 5 r6) l.length) := by rw [unhide hr6]; exact (unhide HQi).carry0 r5 [] (unhide HE5)
            clear hr6 ho6 hg6 hf6 m6
            go_wp2
            go_roundw
            case rel => exact ⟨2, by omega, by go_num, _, _, _, _, _, _, _, HL6, HQ6, (fun _ => unhide H1 (by omega)), (fun h => rfl)⟩
            case measure => simp [intOf]
          · rw [show ((2 : Nat) : Int) = 2 from rfl]
            have e0 : L' 3 = L' 5 := by rw [(unhide HQi).q0, unhide H2 (by omega)]; simp
            have e1 : L' 2 = L' 4 := by rw [(unhide HQi).q1, unhide H1 (by omega)]; simp
            have hb0 := (unhide HQi).b0
            have hb1 := (unhide HQi).b1
            have hrw : ∀ i, i < 6 → Row wr (A' i) (L' i) := fun i hi => ((unhide HLi).rows i hi).toBs.row
            have s0 : wr.cell? ⟨S, 0, none⟩ = some (.slice (A' 2) (L' 2).length (K' 2)) := by rw [cell_of_row wr S 0 _ _ _ (unhide HLi).sent]; rfl
            have s1 : wr.cell? ⟨S, 1, none⟩ = some (.slice (A' 3) (L' 3).length (K' 3)) := by rw [cell_of_row wr S 1 _ _ _ (unhide HLi).sent]; rfl
            have m0 : wr.cell? ⟨R, 0, none⟩ = some (.slice (A' 4) (L' 4).length (K' 4)) := by rw [cell_of_row wr R 0 _ _ _ (unhide HLi).came]; rfl
            have m1 : wr.cell? ⟨R, 1, none⟩ = some (.slice (A' 5) (L' 5).length (K' 5)) := by rw [cell_of_row wr R 1 _ _ _ (unhide HLi).came]; rfl
            have E0 := hide e0
            have E1 := hide e1
            have hl4 : (L' 4).length ≤ 1000000000 := by rw [← e1]; omega
            have hl5 : (L' 5).length ≤ 1000000000 := by rw [← e0]; omega
            have HRW := hide hrw
            clear e0 e1 hrw
            go_wp2_with fail
            refine (eqs_z (A' 4) (K' 4) (L' 4) (A' 2) (K' 2) (L' 2) (L' 4).length (L' 2).length wr (unhide HRW 4 (by omega)) (unhide HRW 2 (by omega)) (hide rfl) (hide rfl) hl4 (by omega)).mono ?_
            rintro e w6 ⟨rfl, m', hw6⟩
            have HB6 : Hid (Below wr.heap.size wr w6) := by rw [hw6]; exact below_drewN (Below.refl _ _) m'
            have u1 : w6.cell? ⟨S, 1, none⟩ = some (.slice (A' 3) (L' 3).length (K' 3)) := by rw [hw6]; simpa using s1
            have u2 : w6.cell? ⟨R, 1, none⟩ = some (.slice (A' 5) (L' 5).length (K' 5)) := by rw [hw6]; simpa using m1
            have hq0 : (L' 4 == L' 2) = true := by rw [unhide E1]; simp
            clear hw6 s0 s1 m0 m1
            rw [hq0]
            go_wp2_with fail
            refine (eqs_z (A' 5) (K' 5) (L' 5) (A' 3) (K' 3) (L' 3) (L' 5).length (L' 3).length w6 ((unhide HRW 5 (by omega)).below (unhide HB6) (Nat.le_refl _)) ((unhide HRW 3 (by omega)).below (unhide HB6) (Nat.le_refl _)) (hide rfl) (hide rfl) hl5 (by omega)).mono ?_
            rintro e w7 ⟨rfl, m'', hw7⟩
            have HB7 : Hid (Below wr.heap.size wr w7) := by rw [hw7]; exact below_drewN (unhide HB6) m''
            have hq1 : (L' 5 == L' 3) = true := by rw [unhide E0]; simp
            clear hw7 u1 u2
            rw [hq1]
            go_wp2
            go_ret
            exact ⟨rfl, (unhide HLi).bel.trans ((unhide HB7).mono (unhide HLi).bel.size)⟩
#print axioms linkOrder_walk
end Go.Proofs.Ytmpaekhklfnkfaa
