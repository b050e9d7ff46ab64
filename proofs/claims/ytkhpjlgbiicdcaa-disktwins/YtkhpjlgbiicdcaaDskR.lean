/-
  disk: slices.DeleteFunc over acts.
-/
import Derived.Test.YtkhpjlgbiicdcaaDskQ
set_option linter.unusedVariables false
namespace Go.Proofs.Ytkhpjlgbiicdcaa
open Go.RowKit Go.Maps

def keepN (n : Nm) (t : At) : Bool := !(t.1.n == n)
theorem filt_all {n : Nm} {l : List At} (h : ∀ t ∈ l, (t.1.n == n) = false) : l.filter (keepN n) = l := by
  rw [List.filter_eq_self]
  intro t ht
  unfold keepN
  rw [h t ht]; rfl
theorem Try.elemA : Try.prog.underlying 55 = some (.slice (Try.prog.elem 55)) := by kernel_rfl
theorem Try.sizeA (w : World) : (sizeOf (Try.prog.elem 55)).run Try.prog w = .ok 4 w := by kernel_rfl
theorem acts_from (G n cap E : Nat) (w : World) (h1 : E < n) (h2 : n ≤ cap) :
    (Instr.slice 55 (.slice (some ⟨G, 0, none⟩) n cap) (some (.int .i64 (E : Int))) none none).run Try.prog w = .ok (.slice (some ⟨G, E * 4, none⟩) (n - E) (cap - E)) w := by
  rw [run_slice_l (P := Try.prog) w 55 _ n cap Try.elemA .i64 (E : Int) (by omega) (by omega), Try.sizeA]
  simp only [Result.andThen, sliced, Int.toNat_natCast]
  rw [if_neg (by omega), Option.map_some, addr_add, Nat.zero_add]
theorem acts_to (G n cap H : Nat) (w : World) (h1 : H ≤ cap) :
    (Instr.slice 55 (.slice (some ⟨G, 0, none⟩) n cap) none (some (.int .i64 (H : Int))) none).run Try.prog w = .ok (.slice (some ⟨G, 0, none⟩) H cap) w := by
  rw [run_slice_h (P := Try.prog) w 55 _ n cap Try.elemA .i64 (H : Int) (by omega) (by omega), Try.sizeA]
  simp only [Result.andThen, sliced, Int.toNat_natCast, Nat.sub_zero, Option.map_some, Nat.zero_mul, addr_add, Nat.add_zero, ite_self]
theorem wp_clr_run (w : World) {ops : Array Oper} {rest : List Oper} {o : Oper} {a : Act} {Q : Exit → Act → World → Prop} (hg : o.guard = none) (m : Operand) (t : TypeId) (hop : o.op = Op.call { callee := Callee.builtin Builtin.clear, args := #[m], argTypes := #[t] })
    (vm : Value) (hm : a.eval m = vm) (w' : World) (hr : (Builtin.clear_ #[t] o.type #[vm]).run Try.prog w = .ok (.tuple #[]) w') (hK : wpList Try.prog ops Q rest (a.put o.dst (.tuple #[])) w') : wpList Try.prog ops Q (o :: rest) a w := by
  refine wpList_plain hg fun K' hK' => ?_
  unfold Oper.wp
  simp [execOp, hop, resolve, invoke, builtin, hm, hr, Result.andThen]
  exact hK' _ _ hK

set_option maxRecDepth 20000 in
set_option maxHeartbeats 4000000 in
theorem delf_some (G pc : Nat) (l : List At) (L : Nat) (n : Nm) (Z : Nat) (w : World) (HL : Hid (L = l.length)) (hl : L ≤ 1000000) (ho : OwnA w (some ⟨G, 0, none⟩) pc l) (hz : w.cell? ⟨Z, 0, none⟩ = some (.string (str n))) (hZG : Z ≠ G) :
    Calls Try.prog 35 #[.slice (some ⟨G, 0, none⟩) L pc, .func (.func 36) #[] #[.pointer (some ⟨Z, 0, none⟩)]] w fun e w' => ∃ lo, e = .returned (.slice (some ⟨G, 0, none⟩) lo.length pc) ∧ Hid (lo = l.filter (keepN n)) ∧ OwnA w' (some ⟨G, 0, none⟩) pc lo ∧ w.grownBy w' (some G) := by
  have hGlt : G < w.heap.size := ho.lt G rfl
  have hZlt : Z < w.heap.size := World.block_lt_of_cell? w _ hz
  have hlc : L ≤ pc := by
    rcases ho.cases with ⟨e, _⟩ | ⟨g, cur, e, _, hle, _⟩
    · cases e
    · have := unhide HL; omega
  go_enter Try.func35, Try.ntmps35
  go_wp2_with fail
  refine (idxf_any (some ⟨G, 0, none⟩) pc l L n Z w HL hl ho hz).mono ?_
  rintro e w1 ⟨hb1, ⟨rfl, HA⟩ | ⟨k, hkL, rfl, HA, HT⟩⟩
  · go_wp2
    go_ret
    refine ⟨l, by rw [← unhide HL]; rfl, (filt_all (unhide HA)).symm, ho.below hb1, ⟨hb1.os, hb1.tape, hb1.output, hb1.size, fun j hj _ => hb1.block j hj⟩⟩
  · have hk1 : ((k : Int) == -1) = false := by simp
    have hk2 : (k : Int) < (L : Int) := by omega
    go_wp2
    go_loopw [5, 6] (fun s v wr => ∃ (I Jn : Nat) (cur : List At), k + 1 ≤ Jn ∧ Jn ≤ L ∧ I < Jn ∧ s = .int .i64 (I : Int) ∧ v = .int .i64 (Jn : Int) ∧ Hid (cur.length = L) ∧ Hid (cur.take I = (l.take Jn).filter (keepN n)) ∧ Hid (cur.drop Jn = l.drop Jn) ∧ Hid (OwnA wr (some ⟨G, 0, none⟩) pc cur) ∧ Hid (w.grownBy wr (some G))) (fun _ v _ => L - (intOf v).toNat)
    case atStart =>
      refine ⟨k, k + 1, l, Nat.le_refl _, by omega, by omega, rfl, by go_num, (unhide HL).symm, ?_, rfl, ho.below hb1, ⟨hb1.os, hb1.tape, hb1.output, hb1.size, fun j hj _ => hb1.block j hj⟩⟩
      show _ = _
      obtain ⟨t, ht, hb⟩ := unhide HT
      rw [take_snoc ht, List.filter_append, filt_all (unhide HA)]
      simp [keepN, hb]
    case round =>
      obtain ⟨I, Jn, cur, hkJ, hJL, hIJ, rfl, rfl, HC, HF, HD, HO, HG⟩ := hrel
      by_cases hlt : Jn < L
      · have hlt2 : (Jn : Int) < (L : Int) := by omega
        have hIL : (I : Int) < (L : Int) := by omega
        obtain ⟨t, ht⟩ : ∃ t, l[Jn]? = some t := ⟨_, List.getElem?_eq_getElem (by have := unhide HL; omega)⟩
        have htc : cur[Jn]? = some t := by
          have := congrArg (fun x => x[0]?) (unhide HD)
          simp only [List.getElem?_drop, Nat.add_zero] at this
          rw [this, ht]
        obtain ⟨G', hG', a0, a1, a2, a3⟩ := (unhide HO).at htc
        obtain rfl : G = G' := by simpa using hG'
        have hzr : wr.cell? ⟨Z, 0, none⟩ = some (.string (str n)) := (unhide HG).cell hz (by simp; exact hZG)
        have hzu : (wr.alloc (.cells #[.int .i64 (t.1.k : Int), .string (str t.1.n), .int .i64 (t.1.p : Int), .slice t.2.1 t.1.b.length t.2.2] 63)).cell? ⟨Z, 0, none⟩ = some (.string (str n)) := by
          rw [((Below.refl wr.heap.size wr).alloc (Nat.le_refl _) _).cell (World.block_lt_of_cell? _ _ hzr)]; exact hzr
        have HTl := hide ht
        clear hG' ht htc hzr
        cases hb : (t.1.n == n) with
        | true =>
          have HBt := hide hb
          clear hb
          go_wp2_with fail
          refine (clos_any t n Z _ hzu).mono ?_
          rintro e w2 ⟨rfl, hb2⟩
          rw [unhide HBt]
          have HB2 : Hid (Below wr.heap.size wr w2) := ((Below.refl _ _).alloc (Nat.le_refl _) _).trans (hb2.mono (by simp))
          have HO2 : Hid (OwnA w2 (some ⟨G, 0, none⟩) pc cur) := (unhide HO).below (unhide HB2)
          have HG2 : Hid (w.grownBy w2 (some G)) := (unhide HG).trans ⟨(unhide HB2).os, (unhide HB2).tape, (unhide HB2).output, (unhide HB2).size, fun j hj _ => (unhide HB2).block j hj⟩
          have HF2 : Hid (cur.take I = (l.take (Jn + 1)).filter (keepN n)) := by
            show _ = _
            rw [take_snoc (unhide HTl), List.filter_append, unhide HF]
            simp [keepN, unhide HBt]
          have HD2 : Hid (cur.drop (Jn + 1) = l.drop (Jn + 1)) := by
            show _ = _
            rw [← List.drop_drop, ← List.drop_drop, unhide HD]
          go_wp2
          go_roundw
          case rel => exact ⟨I, Jn + 1, cur, by omega, by omega, by omega, rfl, by go_num, HC, HF2, HD2, HO2, HG2⟩
          case measure => simp [intOf]; omega
        | false =>
          have HBt := hide hb
          clear hb
          go_wp2_with fail
          refine (clos_any t n Z _ hzu).mono ?_
          rintro e w2 ⟨rfl, hb2⟩
          rw [unhide HBt]
          have HB2 : Hid (Below wr.heap.size wr w2) := ((Below.refl _ _).alloc (Nat.le_refl _) _).trans (hb2.mono (by simp))
          have hO2 : OwnA w2 (some ⟨G, 0, none⟩) pc cur := (unhide HO).below (unhide HB2)
          have hbx : Box w2 wr.heap.size (.int .i64 (t.1.k : Int)) (.string (str t.1.n)) (.int .i64 (t.1.p : Int)) (.slice t.2.1 t.1.b.length t.2.2) := by
            unfold Box
            rw [hb2.block wr.heap.size (by simp)]
            exact heap_alloc_new wr _
          obtain ⟨b0, b1, b2, b3⟩ := hbx.cells
          have hIc : I < cur.length := by have := unhide HC; omega
          obtain ⟨tI, htI⟩ : ∃ tI, cur[I]? = some tI := ⟨_, List.getElem?_eq_getElem hIc⟩
          obtain ⟨G'', hG'', q0, q1, q2, q3⟩ := hO2.at htI
          obtain rfl : G = G'' := by simpa using hG''
          have hfz : ∀ j, w2.frozen? ⟨G, j, none⟩ = false := by
            rcases hO2.cases with ⟨e, _⟩ | ⟨g, cur', e, hg, _⟩
            · cases e
            · obtain rfl : G = g := by simpa using e
              exact fun j => frozen_of_row w2 G j _ _ hg
          have f0 := hfz (I * 4)
          have f1 := hfz (I * 4 + 1)
          have f2 := hfz (I * 4 + 2)
          have f3 := hfz (I * 4 + 3)
          have HO3 := hide (hO2.setAt I hIc t)
          have hgG : ∀ (v : World) (j : Nat) (u : Value), v.grownBy (v.setCell ⟨G, j, none⟩ u) (some G) := fun v j u => grownBy_setCell v ⟨G, j, none⟩ u
          have HG3 := hide (((unhide HG).trans (show wr.grownBy w2 (some G) from ⟨(unhide HB2).os, (unhide HB2).tape, (unhide HB2).output, (unhide HB2).size, fun j hj _ => (unhide HB2).block j hj⟩)).trans ((((hgG w2 (I * 4) (.int .i64 (t.1.k : Int))).trans (hgG _ (I * 4 + 1) (.string (str t.1.n)))).trans (hgG _ (I * 4 + 2) (.int .i64 (t.1.p : Int)))).trans (hgG _ (I * 4 + 3) (.slice t.2.1 t.1.b.length t.2.2))))
          have HC3 : Hid ((cur.set I t).length = L) := by show _ = _; rw [List.length_set]; exact unhide HC
          have HF3 : Hid ((cur.set I t).take (I + 1) = (l.take (Jn + 1)).filter (keepN n)) := by
            show _ = _
            rw [take_snoc (x := t) (by simp [hIc]), List.take_set_of_le (Nat.le_refl _), take_snoc (unhide HTl), List.filter_append, unhide HF]
            simp [keepN, unhide HBt]
          have HD3 : Hid ((cur.set I t).drop (Jn + 1) = l.drop (Jn + 1)) := by
            show _ = _
            rw [List.drop_set_of_lt (by omega), ← List.drop_drop, ← List.drop_drop, unhide HD]
          clear hO2 hbx htI hG'' hfz hgG hb2
          go_wp2
          go_roundw
          case rel => exact ⟨I + 1, Jn + 1, cur.set I t, by omega, by omega, by omega, by go_num, by go_num, HC3, HF3, HD3, HO3, HG3⟩
          case measure => simp [intOf]; omega
      · obtain rfl : Jn = L := by omega
        have hIc : I < cur.length := by have := unhide HC; omega
        obtain ⟨w3, hrun, ho3, hg3⟩ := run_clr (c := pc - I) (unhide HO) I hIc 0
        rw [unhide HC] at hrun
        have hsf := acts_from G Jn pc I wr (by omega) hlc
        have hst := acts_to G Jn pc I w3 (by omega)
        have HE : Hid (cur.take I = l.filter (keepN n)) := by
          show _ = _
          rw [unhide HF, List.take_of_length_le (by have := unhide HL; omega)]
        have HO3 := hide ho3
        have HG3 := hide ((unhide HG).trans hg3)
        have HI : Hid ((cur.take I).length = I) := by show _ = _; simp; omega
        clear ho3 hg3
        go_wp2_with (at_builtin; refine wp_clr_run _ rfl _ _ rfl _ rfl _ hrun ?_)
        go_ret
        exact ⟨cur.take I, by rw [unhide HI]; rfl, HE, unhide HO3, unhide HG3⟩
theorem delf_none (n : Nm) (Z : Nat) (w : World) (hz : w.cell? ⟨Z, 0, none⟩ = some (.string (str n))) :
    Calls Try.prog 35 #[.slice none 0 0, .func (.func 36) #[] #[.pointer (some ⟨Z, 0, none⟩)]] w fun e w' => e = .returned (.slice none 0 0) ∧ Below w.heap.size w w' := by
  go_enter Try.func35, Try.ntmps35
  go_wp2_with fail
  refine (idxf_any none 0 [] 0 n Z w rfl (by omega) (OwnA.nil _) hz).mono ?_
  rintro e w1 ⟨hb1, ⟨rfl, HA⟩ | ⟨k, hkL, rfl, HA, HT⟩⟩
  · go_wp2
    go_ret
    exact ⟨rfl, hb1⟩
  · omega
/-- DeleteFunc, whatever the row. -/
theorem delf_any (P : Option Addr) (pc : Nat) (l : List At) (L : Nat) (n : Nm) (Z : Nat) (w : World) (HL : Hid (L = l.length)) (hl : L ≤ 1000000) (ho : OwnA w P pc l) (hz : w.cell? ⟨Z, 0, none⟩ = some (.string (str n))) (hZG : blk P ≠ some Z) :
    Calls Try.prog 35 #[.slice P L pc, .func (.func 36) #[] #[.pointer (some ⟨Z, 0, none⟩)]] w fun e w' => ∃ lo, e = .returned (.slice P lo.length pc) ∧ Hid (lo = l.filter (keepN n)) ∧ Hid (OwnA w' P pc lo) ∧ Hid (w.grownBy w' (blk P)) := by
  rcases ho.cases with ⟨rfl, rfl, rfl⟩ | ⟨G, cur, rfl, _⟩
  · obtain rfl : L = 0 := unhide HL
    refine (delf_none n Z w hz).mono ?_
    rintro e w' ⟨rfl, hb⟩
    exact ⟨[], rfl, rfl, OwnA.nil _, ⟨hb.os, hb.tape, hb.output, hb.size, fun j hj _ => hb.block j hj⟩⟩
  · refine (delf_some G pc l L n Z w HL hl ho hz (fun e => hZG (by rw [e]; rfl))).mono ?_
    rintro e w' ⟨lo, rfl, h1, h2, h3⟩
    exact ⟨lo, rfl, h1, h2, h3⟩
#print axioms delf_any
end Go.Proofs.Ytkhpjlgbiicdcaa
