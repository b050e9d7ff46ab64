/-
  THE WALK OF WireCursor.
-/
import Derived.Test.YthpalohjjkmhdaaRefC
import Derived.Test.YthpalohjjkmhdaaByt
import Derived.Test.YthpalohjjkmhdaaRunL
import Derived.Test.YthpalohjjkmhdaaOwn2
set_option linter.unusedVariables false
namespace Go.Proofs.Ythpalohjjkmhdaa
open Go.RowKit

/-- A slice of asks that came in: two ints each. -/
structure AsR (w : World) (a : Option Addr) (ps : List (Int × Int)) : Prop where
  row : ps ≠ [] → ∃ b off, a = some ⟨b, off, none⟩ ∧ ∀ (i : Nat) (x : Int × Int), ps[i]? = some x → w.cell? ⟨b, off + i * 2, none⟩ = some (.int .i64 x.1) ∧ w.cell? ⟨b, off + i * 2 + 1, none⟩ = some (.int .i64 x.2)
  wf : ∀ (i : Nat) (x : Int × Int), ps[i]? = some x → -9223372036854775808 ≤ x.1 ∧ x.1 ≤ 9223372036854775807 ∧ -9223372036854775808 ≤ x.2 ∧ x.2 ≤ 9223372036854775807

theorem Cur.kept {w w' : World} {C : Nat} {a : Option Addr} {cap : Nat} {l : List UInt8} {at' : Nat} (h : Cur w C a cap l at') {row : Option Nat} (hg : w.grownBy w' row) (hC : some C ≠ row) (ha : l ≠ [] → blk a ≠ row) : Cur w' C a cap l at' := by
  refine ⟨by rw [hg.block C (Array.getElem?_eq_some_iff.1 h.hp).1 hC]; exact h.hp, ?_, h.le, h.ne, h.small⟩
  by_cases hl : l = []
  · subst hl; exact ⟨fun h => absurd rfl h, h.bs.le, h.bs.most, h.bs.nz⟩
  · exact h.bs.grown hg (.inr (ha hl))
theorem rc_new (w : World) (a : Option Addr) (cap : Nat) (l : List UInt8) (hB : Bs w a cap l) (hl : l.length ≤ 100000000) : RC (w.alloc (.cells #[.slice a l.length cap, .int .i64 0] 40)) w.heap.size a cap l 0 := by
  refine ⟨heap_alloc_new w _, hB.alloc _, Nat.zero_le _, fun hne e => ?_, hl⟩
  have := hB.row.lt hne _ e
  omega

def Both (w W : World) (C : Nat) (ac : Option Addr) (capc X : Nat) (a0 : Option Addr) (cap0 : Nat) (g : List UInt8) (c x : Nat) : Prop := Cur W C ac capc g c ∧ RC W X a0 cap0 g x ∧ Below w.heap.size w W

set_option maxRecDepth 100000 in
set_option maxHeartbeats 1000000 in
theorem wireCursor_big (a0 : Option Addr) (cap0 : Nat) (l0 : List UInt8) (a1 : Option Addr) (n1 cap1 : Nat) (w : World) (hm0 : l0.length ≤ maxLen) (hm1 : n1 ≤ maxLen) (h : 262144 < l0.length ∨ 1000 < n1) :
    Calls Try.prog 4 #[.slice a0 l0.length cap0, .slice a1 n1 cap1] w fun e w' => e = .returned (.bool true) ∧ Below w.heap.size w w' := by
  unfold maxLen at hm0 hm1
  by_cases h1 : 262144 < l0.length
  · go_enter Try.func4, Try.ntmps4
    go_wp2_with fail
    refine (sum_nil' w).mono ?_
    rintro e w1 ⟨rfl, rfl⟩
    go_wp2
    go_ret
    exact ⟨rfl, Below.refl _ _⟩
  · have h2 : 1000 < n1 := by omega
    go_enter Try.func4, Try.ntmps4
    go_wp2_with fail
    refine (sum_nil' w).mono ?_
    rintro e w1 ⟨rfl, rfl⟩
    go_wp2
    go_ret
    exact ⟨rfl, Below.refl _ _⟩

set_option maxRecDepth 100000 in
set_option maxHeartbeats 4000000 in
theorem wireCursor_small (a0 : Option Addr) (cap0 : Nat) (l0 : List UInt8) (a1 : Option Addr) (n1 cap1 : Nat) (ps : List (Int × Int)) (w : World) (p0 : Bs w a0 cap0 l0) (HP : Hid (n1 = ps.length)) (p1 : AsR w a1 ps) (h0 : ¬ 262144 < l0.length) (h1 : ¬ 1000 < n1) :
    Calls Try.prog 4 #[.slice a0 l0.length cap0, .slice a1 n1 cap1] w fun e w' => e = .returned (.bool true) ∧ Below w.heap.size w w' := by
  go_enter Try.func4, Try.ntmps4
  go_wp2_with fail
  refine (sclone_any a0 _ cap0 l0 w p0 rfl (by omega)).mono ?_
  rintro e w1 ⟨a5, cap5, g, rfl, hr1, ho1, hb1⟩
  have eg : g = l0 := hr1.out
  subst eg
  clear hr1
  have hs1 := hb1.size
  have lo1 := ho1.lt
  go_wp2_with fail
  refine (from_any a5 _ cap5 g w1 ho1.toBs rfl (by omega)).mono ?_
  rintro e w2 ⟨C, ac, capc, rfl, hC, hCl, hac, hb2⟩
  have hs2 := hb2.size
  have hW2 := hb1.trans (hb2.mono hs1)
  have p02 := p0.below hW2 (Nat.le_refl _)
  have hR := rc_new w2 a0 cap0 g p02 (by omega)
  have hC3 := hC.below ((Below.refl w2.heap.size w2).alloc (Nat.le_refl _) (.cells #[.slice a0 g.length cap0, .int .i64 0] 40)) (Nat.le_refl _)
  have ho3 := (ho1.below hb2 (Nat.le_refl _)).alloc (.cells #[.slice a0 g.length cap0, .int .i64 0] 40)
  have hW3 := hW2.alloc hW2.size (.cells #[.slice a0 g.length cap0, .int .i64 0] 40)
  have lCw : C < w2.heap.size := (Array.getElem?_eq_some_iff.1 hC.hp).1
  have lac : g ≠ [] → ∀ k, blk ac = some k → k < w2.heap.size := fun hne k hk => hC.bs.row.lt hne k hk
  have la0 : g ≠ [] → ∀ k, blk a0 = some k → k < w.heap.size := fun hne k hk => p0.row.lt hne k hk
  clear hC ho1 p02 hb1 hb2
  go_wp2
  generalize w2.alloc (.cells #[.slice a0 g.length cap0, .int .i64 0] 40) = w3 at *
  generalize w2.heap.size = X at *
  go_loopw [38] (fun i wr => ∃ (k : Nat) (r : List UInt8), k ≤ g.length ∧ i = .int .i64 (k : Int) ∧ r.length = g.length ∧ OwnB wr w.heap.size a5 cap5 r ∧ Cur wr C ac capc g 0 ∧ RC wr X a0 cap0 g 0 ∧ Below w.heap.size w wr) (fun i _ => g.length - (intOf i).toNat)
  case atStart => exact ⟨0, g, Nat.zero_le _, rfl, rfl, ho3, hC3, hR, hW3⟩
  case round =>
    clear ho3 hC3 hR hW3
    obtain ⟨k, r, hk, rfl, hrl, ho, hC, hR, hW⟩ := hrel
    by_cases hlt : k < g.length
    · obtain ⟨g5, rfl, hg0, hg1, hc5, hf5⟩ := ho.some (by omega)
      have hck := hc5 k (by omega)
      have hfk := hf5 k
      obtain ⟨d, hd⟩ : ∃ d : UInt8, d = r.getD k 0 := ⟨_, rfl⟩
      rw [← hd] at hck
      obtain ⟨c, hcc⟩ : ∃ c : UInt8, c = d ^^^ 255 := ⟨_, rfl⟩
      have hxor : bits .xor .u8 (d.toNat : Int) 255 = (c.toNat : Int) := by
        have := u8_xor_nat d.toNat 255 d.toNat_lt (by omega)
        rw [hcc, UInt8.toNat_xor]
        exact this
      have hdl := d.toNat_lt
      have hcl := c.toNat_lt
      have l5 := (lo1 g5 rfl).2
      have hne : g ≠ [] := by intro e; subst e; simp at hlt
      have HO := hide (row_stored ho k c)
      have HC := hide (hC.kept (gset wr ⟨g5, k, none⟩ (.int .u8 (c.toNat : Int))) (by simp; omega) (fun _ e => by have := hac _ e; simp at this; omega))
      have HR := hide (hR.kept (gset wr ⟨g5, k, none⟩ (.int .u8 (c.toNat : Int))) (by simp; omega) (fun hn e => by have := la0 hn _ e; simp at this; omega))
      have HW := hide (below_grown (a := some ⟨g5, 0, none⟩) hW (gset wr ⟨g5, k, none⟩ (.int .u8 (c.toNat : Int))) (Nat.le_refl _) (fun j hj => by simp [blk] at hj; omega))
      have HL : Hid ((r.set k c).length = g.length) := by show _ = _; rw [List.length_set]; exact hrl
      clear hd hcc ho hC hR hW hc5 hf5
      have hrp : k < r.length := by omega
      clear hrl
      go_wp2
      go_roundw
      case rel => exact ⟨k + 1, r.set k c, by omega, by go_num, unhide HL, unhide HO, unhide HC, unhide HR, unhide HW⟩
      case measure => simp [intOf]; omega
    · obtain rfl : k = g.length := by omega
      clear ho hrl
      go_wp2
      go_loopw [50] (fun i wr => ∃ (k at' : Nat), k ≤ n1 ∧ i = .int .i64 (k : Int) ∧ Cur wr C ac capc g at' ∧ RC wr X a0 cap0 g at' ∧ Below w.heap.size w wr) (fun i _ => n1 - (intOf i).toNat)
      case atStart => exact ⟨0, 0, Nat.zero_le _, rfl, hC, hR, hW⟩
      case round =>
        clear hC hR hW
        obtain ⟨k, at', hk1, rfl, hC, hR, hW⟩ := hrel
        have hsz := hW.size
        by_cases hkn : k < n1
        · have hkp : k < ps.length := by have := unhide HP; omega
          obtain ⟨⟨op, mo⟩, hx⟩ : ∃ x, ps[k]? = some x := ⟨_, List.getElem?_eq_getElem hkp⟩
          obtain ⟨b1, o1, ea1, hcells⟩ := p1.row (by intro e; subst e; simp at hkp)
          subst ea1
          obtain ⟨q0, q1⟩ := hcells k _ hx
          simp only at q0 q1
          obtain ⟨hop0, hop1, hmo0, hmo1⟩ := p1.wf k _ hx
          simp only at hop0 hop1 hmo0 hmo1
          have r0 : wr.cell? ⟨b1, o1 + k * 2, none⟩ = some (.int .i64 op) := by rw [hW.cell (World.block_lt_of_cell? w _ q0)]; exact q0
          have r1 : wr.cell? ⟨b1, o1 + k * 2 + 1, none⟩ = some (.int .i64 mo) := by rw [hW.cell (World.block_lt_of_cell? w _ q1)]; exact q1
          clear hcells q0 q1 hx
          obtain ⟨U, hU⟩ : ∃ U : Nat, IntKind.u64.wrap op = (U : Int) := ⟨(IntKind.u64.wrap op).toNat, by rw [IntKind.wrap_u64]; omega⟩
          obtain ⟨R, hRR⟩ : ∃ R : Nat, R = U % 5 := ⟨_, rfl⟩
          have hR1 : (U : Int).tmod 5 = (R : Int) := by rw [hRR]; exact rfl
          have hR2 : (U : Int) % 5 = (R : Int) := by rw [hRR]; simp
          have hRl : R < 5 := by omega
          clear hRR
          have hXC : X ≠ C := by omega
          have hC1' := hC.below ((Below.refl wr.heap.size wr).alloc (Nat.le_refl _) (.cells #[.int .i64 op, .int .i64 mo] 42)) (Nat.le_refl _)
          have hR1' := hR.below ((Below.refl wr.heap.size wr).alloc (Nat.le_refl _) (.cells #[.int .i64 op, .int .i64 mo] 42)) (Nat.le_refl _)
          have hW1' := hW.alloc hW.size (.cells #[.int .i64 op, .int .i64 mo] 42)
          have hask0 : (wr.alloc (.cells #[.int .i64 op, .int .i64 mo] 42)).cell? ⟨wr.heap.size, 1, none⟩ = some (.int .i64 mo) := by rw [cell_of_row _ wr.heap.size 1 _ _ _ (heap_alloc_new wr _)]; rfl
          have lCr : C < wr.heap.size := (Array.getElem?_eq_some_iff.1 hC.hp).1
          have HA0 := hide hask0
          clear hask0 hC hR hW
          go_wp2_with fail
          · refine (cbyte_any C ac capc g at' _ hC1').mono ?_
            rintro e w4 ⟨N, E, S, rfl, hr4, hC4, hg4⟩
            have hR4 := hR1'.kept hg4 (by simp; exact hXC) (fun hn e => by have := la0 hn _ e; omega)
            have hW4 : Below w.heap.size w w4 := below_grown (a := some ⟨C, 0, none⟩) hW1' hg4 (Nat.le_refl _) (fun j hj => by simp [blk] at hj; omega)
            clear hC1' hR1' hW1' hg4
            go_wp2_with fail
            refine (rbyte_any X a0 cap0 g at' w4 hR4).mono ?_
            rintro e w5 ⟨N', E', S', rfl, hr5, hR5, hg5⟩
            have hq := (unhide hr5).trans (unhide hr4).symm
            simp only [Prod.mk.injEq] at hq
            obtain ⟨rfl, rfl, rfl⟩ := hq
            have hC5 := hC4.kept hg5 (by simp; exact fun h => hXC h.symm) (fun hn e => by have := lac hn _ e; omega)
            have hW5 : Below w.heap.size w w5 := below_grown (a := some ⟨X, 0, none⟩) hW4 hg5 (Nat.le_refl _) (fun j hj => by simp [blk] at hj; omega)
            clear hC4 hR4 hW4 hg5 hr4 hr5
            have rc1 := hR5.c1
            go_wp2_with fail
            go_quiet (first | (go_at_call 24; refine Calls.quiet_of_same (cat_any C ac capc g (at' + S') _ (hC5.drewN _))))
            go_wp2
            go_roundw
            case rel => exact ⟨k + 1, (at' + S'), by omega, by go_num, hC5.drewN _, hR5.drewN _, below_drewN hW5 _⟩
            case measure => simp [intOf]; omega
          · refine (cnumber_any C ac capc g at' _ hC1').mono ?_
            rintro e w4 ⟨N, S, E, rfl, hr4, hC4, hg4⟩
            have hR4 := hR1'.kept hg4 (by simp; exact hXC) (fun hn e => by have := la0 hn _ e; omega)
            have hW4 : Below w.heap.size w w4 := below_grown (a := some ⟨C, 0, none⟩) hW1' hg4 (Nat.le_refl _) (fun j hj => by simp [blk] at hj; omega)
            clear hC1' hR1' hW1' hg4
            go_wp2_with fail
            refine (rnumber_any' X a0 cap0 g at' w4 hR4).mono ?_
            rintro e w5 ⟨N', S', E', rfl, hr5, hR5, hg5⟩
            have hq := (unhide hr5).trans (unhide hr4).symm
            simp only [Prod.mk.injEq] at hq
            obtain ⟨rfl, rfl, rfl⟩ := hq
            have hC5 := hC4.kept hg5 (by simp; exact fun h => hXC h.symm) (fun hn e => by have := lac hn _ e; omega)
            have hW5 : Below w.heap.size w w5 := below_grown (a := some ⟨X, 0, none⟩) hW4 hg5 (Nat.le_refl _) (fun j hj => by simp [blk] at hj; omega)
            clear hC4 hR4 hW4 hg5 hr4 hr5
            have rc1 := hR5.c1
            go_wp2_with fail
            go_quiet (first | (go_at_call 24; refine Calls.quiet_of_same (cat_any C ac capc g (at' + S') _ (hC5.drewN _))))
            go_wp2
            go_roundw
            case rel => exact ⟨k + 1, (at' + S'), by omega, by go_num, hC5.drewN _, hR5.drewN _, below_drewN hW5 _⟩
            case measure => simp [intOf]; omega
          · refine (ctext_any C ac capc g at' mo _ hC1' hmo0 hmo1).mono ?_
            rintro e w4 ⟨t, E, S, rfl, hr4, hC4, hg4⟩
            have hR4 := hR1'.kept hg4 (by simp; exact hXC) (fun hn e => by have := la0 hn _ e; omega)
            have hW4 : Below w.heap.size w w4 := below_grown (a := some ⟨C, 0, none⟩) hW1' hg4 (Nat.le_refl _) (fun j hj => by simp [blk] at hj; omega)
            have hask : w4.cell? ⟨wr.heap.size, 1, none⟩ = some (.int .i64 mo) := hg4.cell (unhide HA0) (by simp; omega)
            clear hC1' hR1' hW1' hg4
            go_wp2_with fail
            refine (rtext_any' X a0 cap0 g at' mo w4 hR4 hmo0 hmo1).mono ?_
            rintro e w5 ⟨t', E', S', rfl, hr5, hR5, hg5⟩
            have hq := (unhide hr5).trans (unhide hr4).symm
            simp only [Prod.mk.injEq] at hq
            obtain ⟨rfl, rfl, rfl⟩ := hq
            have hC5 := hC4.kept hg5 (by simp; exact fun h => hXC h.symm) (fun hn e => by have := lac hn _ e; omega)
            have hW5 : Below w.heap.size w w5 := below_grown (a := some ⟨X, 0, none⟩) hW4 hg5 (Nat.le_refl _) (fun j hj => by simp [blk] at hj; omega)
            clear hC4 hR4 hW4 hg5 hr4 hr5
            have rc1 := hR5.c1
            go_wp2_with fail
            go_quiet (first | (go_at_call 24; refine Calls.quiet_of_same (cat_any C ac capc g (at' + S') _ (hC5.drewN _))))
            go_wp2
            go_roundw
            case rel => exact ⟨k + 1, (at' + S'), by omega, by go_num, hC5.drewN _, hR5.drewN _, below_drewN hW5 _⟩
            case measure => simp [intOf]; omega
          · refine (cend_any C ac capc g at' _ hC1').mono ?_
            rintro e w4 ⟨rfl, hC4, hg4⟩
            have hR4 := hR1'.kept hg4 (by simp; exact hXC) (fun hn e => by have := la0 hn _ e; omega)
            have hW4 : Below w.heap.size w w4 := below_grown (a := some ⟨C, 0, none⟩) hW1' hg4 (Nat.le_refl _) (fun j hj => by simp [blk] at hj; omega)
            clear hC1' hR1' hW1' hg4
            have rc0 := hR4.c1
            by_cases hat : at' < g.length
            · rw [if_pos hat]
              have rc1 := hR4.c1
              go_wp2_with fail
              go_quiet (first | (go_at_call 24; refine Calls.quiet_of_same (cat_any C ac capc g at' _ (hC4.drewN _))))
              go_wp2
              go_roundw
              case rel => exact ⟨k + 1, at', by omega, by go_num, hC4.drewN _, hR4.drewN _, below_drewN hW4 _⟩
              case measure => simp [intOf]; omega
            · rw [if_neg hat]
              have rc1 := hR4.c1
              go_wp2_with fail
              go_quiet (first | (go_at_call 24; refine Calls.quiet_of_same (cat_any C ac capc g at' _ (hC4.drewN _))))
              go_wp2
              go_roundw
              case rel => exact ⟨k + 1, at', by omega, by go_num, hC4.drewN _, hR4.drewN _, below_drewN hW4 _⟩
              case measure => simp [intOf]; omega
          · have rc1 := hR1'.c1
            have hle := hR1'.le
            have hcl0 := p0.le
            obtain ⟨at_a, hsl, hBt⟩ := slice_tail a0 cap0 at' g hcl0 hle (fun hne => by obtain ⟨b, off, e, _⟩ := p0.row hne; exact ⟨b, off, e⟩)
            simp only [List.length_drop] at hsl
            have HBt := hide hBt
            clear hBt
            have cvb := run_str (wr.alloc (.cells #[.int .i64 op, .int .i64 mo] 42)) at_a (g.length - at') (cap0 - at') (g.drop at') (unhide HBt _ hR1'.bs).row (by simp)
            have cvb' := run_str (wr.alloc (.cells #[.int .i64 op, .int .i64 mo] 42)).drew at_a (g.length - at') (cap0 - at') (g.drop at') (unhide HBt _ (hR1'.drewN 1).bs).row (by simp)
            have HREST : Hid (Calls Try.prog 23 #[.pointer (some ⟨C, 0, none⟩)] (wr.alloc (.cells #[.int .i64 op, .int .i64 mo] 42)).drew fun e w' => ∃ a6 cap6 r6, e = .returned (.slice a6 r6.length cap6) ∧ Hid (r6 = g.drop at') ∧ Both w w' C ac capc X a0 cap0 g g.length at' ∧ w'.cell? ⟨X, 1, none⟩ = some (.int .i64 (at' : Int)) ∧ w'.frozen? ⟨X, 1, none⟩ = false ∧ (convert 22 9 (.slice a6 r6.length cap6)).run Try.prog w' = .ok (.string (str r6)) w' ∧ (convert 22 9 (.slice at_a (g.length - at') (cap0 - at'))).run Try.prog w' = .ok (.string (str (g.drop at'))) w') := by
              refine (crest_any C ac capc g at' _ (hC1'.below (Below.refl _ _).drew (Nat.le_refl _))).mono ?_
              rintro e w4 ⟨a6, cap6, r6, rfl, hr6, ho6, hC6, hg6⟩
              have hRd : RC (wr.alloc (.cells #[.int .i64 op, .int .i64 mo] 42)).drew X a0 cap0 g at' := hR1'.below (Below.refl _ _).drew (Nat.le_refl _)
              have hR4 := hRd.kept hg6 (by simp; exact hXC) (fun hn e => by have := la0 hn _ e; omega)
              have hW4 : Below w.heap.size w w4 := below_grown (a := some ⟨C, 0, none⟩) hW1'.drew hg6 (Nat.le_refl _) (fun j hj => by simp [blk] at hj; omega)
              exact ⟨a6, cap6, r6, rfl, hr6, ⟨hC6, hR4, hW4⟩, hR4.c1, hR4.fr 1, run_str w4 a6 r6.length cap6 r6 ho6.toBs.row rfl, run_str w4 at_a (g.length - at') (cap0 - at') (g.drop at') (unhide HBt _ hR4.bs).row (by simp)⟩
            clear hC1' hR1' hW1'
            go_region_with (go_at_call 23; refine (unhide HREST).mono ?_; rintro e w4 ⟨a6, cap6, r6, rfl, hr6, hBo, rc4, fr4, cv6, cvb4⟩)
            all_goals (
              have hr6' := unhide ‹Hid (_ = List.drop at' g)›
              subst hr6'
              obtain ⟨hC6, hR6, hW6⟩ := ‹Both _ _ _ _ _ _ _ _ _ _ _›
              have hR7 := hR6.moved g.length (Nat.le_refl _) (g.length : Int) rfl
              have hC7 := hC6.kept (gset _ ⟨X, 1, none⟩ (.int .i64 (g.length : Int))) (by simp; exact fun h => hXC h.symm) (fun hn e => by have := lac hn _ e; simp at this)
              have hW7 := below_grown (a := some ⟨X, 0, none⟩) hW6 (gset _ ⟨X, 1, none⟩ (.int .i64 (g.length : Int))) (Nat.le_refl _) (fun j hj => by simp [blk] at hj; omega)
              have H7 := hide hR7
              clear hR7 cvb cvb' rc1
              go_wp2_with fail
              have rc7 := (unhide H7).c1
              go_quiet (first | (go_at_call 24; refine Calls.quiet_of_same (cat_any C ac capc g g.length _ (hC7.drewN _))))
              go_wp2
              go_roundw
              case rel => exact ⟨k + 1, g.length, by omega, by go_num, hC7.drewN _, (unhide H7).drewN _, below_drewN hW7 _⟩
              case measure => simp [intOf]; omega)
        · obtain rfl : k = n1 := by omega
          have rc1 := hR.c1
          go_wp2_with fail
          go_quiet (first | (go_at_call 24; refine Calls.quiet_of_same (cat_any C ac capc g at' _ (hC.drewN _))))
          go_wp2
          go_ret
          exact ⟨rfl, below_drewN hW _⟩

theorem wireCursor_walk (a0 : Option Addr) (cap0 : Nat) (l0 : List UInt8) (a1 : Option Addr) (n1 cap1 : Nat) (ps : List (Int × Int)) (w : World) (p0 : Bs w a0 cap0 l0) (HP : Hid (n1 = ps.length)) (hn1 : n1 ≤ maxLen) (p1 : AsR w a1 ps) :
    Calls Try.prog 4 #[.slice a0 l0.length cap0, .slice a1 n1 cap1] w fun e w' => e = .returned (.bool true) ∧ Below w.heap.size w w' := by
  by_cases h : 262144 < l0.length ∨ 1000 < n1
  · exact wireCursor_big a0 cap0 l0 a1 n1 cap1 w (Nat.le_trans p0.le p0.most) hn1 h
  · exact wireCursor_small a0 cap0 l0 a1 n1 cap1 ps w p0 HP p1 (fun h' => h (.inl h')) (fun h' => h (.inr h'))
#print axioms wireCursor_walk
end Go.Proofs.Ythpalohjjkmhdaa
