/-
  disk: strings.Clone; an act's clone; a file's bytes written over; an act done to files.
-/
import Derived.Test.YtmcgghjeocnpnaaGreatDoorPkKewsag
import Derived.Test.YtmcgghjeocnpnaaGreatDoorPkKewsah
import Derived.Deep.RegionWith
section
set_option linter.unusedVariables false
namespace Go.Proofs.YtmcgghjeocnpnaaGreatDoor
open Go.RowKit Go.Maps

set_option maxHeartbeats 4000000 in
set_option maxRecDepth 100000 in
theorem slclone_any (s : ByteArray) (w : World) (hlim : s.size ≤ 281474976710656) :
    Calls Tryz.prog 99 #[.string s] w fun e w' => e = .returned (.string s) ∧ Below w.heap.size w w' := by
  by_cases h0 : s.size = 0
  · have hs : s = ⟨#[]⟩ := by
      apply ByteArray.ext
      exact Array.eq_empty_of_size_eq_zero h0
    subst hs
    go_enter Tryz.func99, Tryz.ntmps99
    go_wp2
    go_ret
    exact ⟨rfl, Below.refl _ _⟩
  · obtain ⟨i0, hi, hz0, hz1, hz2⟩ := info_parts Tryz.infoB
    have hinfo : (Tryz.prog.info? 5).map (·.size) = some 1 := by rw [hi]; simp [hz1]
    have hco : Tryz.prog.cellsOf 5 = 1 := by simp [Program.cellsOf, hi, hz1]
    obtain ⟨M, hM⟩ : ∃ M, M = madeCells (Value.int .u8 0).cells (((s.size : Nat) : Int).toNat * i0.size) := ⟨_, rfl⟩
    have hMs : M.size = s.size := by rw [hM, size_madeCells, hz1]; simp
    have hmk : ∀ W : World, (Instr.makeSlice 86 (.int .i64 (s.size : Int)) (.int .i64 (s.size : Int))).run Tryz.prog W = .ok (.slice (some ⟨W.heap.size, 0, none⟩) s.size s.size) (W.alloc (.cells M 5)) := fun W => by
      have h := run_make (P := Tryz.prog) W 86 5 i0 (.int .u8 0) Tryz.underlying86 hi hz0 .i64 .i64 (s.size : Int) (s.size : Int) (by omega) (by omega) (by rw [hz2]; omega) (by omega)
      rw [← hM] at h
      simpa using h
    clear hM
    have hcp := Lib.run_copy_row_string (P := Tryz.prog) (w.alloc (.cells M 5)) 86 9 3 5 w.heap.size 0 s.size s.size s M 5 Tryz.underlying86 hinfo (heap_alloc_new w _) (Nat.le_refl _) (by omega)
    obtain ⟨Y, hY⟩ : ∃ Y, Y = (M.toList.take 0 ++ Lib.byteCells s.data.toList ++ M.toList.drop (0 + s.size)).toArray := ⟨_, rfl⟩
    rw [← hY] at hcp
    have hYl : Y.toList = Lib.byteCells s.data.toList := by
      rw [hY, List.toList_toArray, List.take_zero, List.nil_append, List.drop_of_length_le (by rw [Array.length_toList]; omega), List.append_nil]
    have hYs : Y.size = s.size := by rw [← Array.length_toList, hYl, Lib.byteCells_length, ← Lib.size_eq]
    have hgY : ((w.alloc (.cells M 5)).setRow w.heap.size Y).heap[w.heap.size]? = some (.cells Y 5 (0, 0)) := setRow_heap _ _ M _ 5 (0, 0) (heap_alloc_new w _)
    have hne : s.data.toList ≠ [] := fun e => h0 (by rw [Lib.size_eq, e]; rfl)
    have hUS := Lib.run_unsafeString_row (P := Tryz.prog) ((w.alloc (.cells M 5)).setRow w.heap.size Y) 182 3 9 5 Tryz.underlying182 hco w.heap.size Y.size (by unfold World.shape?; rw [hgY]) s.data.toList hne (by rw [← Lib.size_eq]; omega) (by rw [← Lib.size_eq]; omega)
      (fun j x hx => Lib.cells_of_row hgY Y.size j _ (by rw [List.take_of_length_le (by rw [Array.length_toList]; exact Nat.le_refl _), hYl]; simp [Lib.byteCells, hx]))
    rw [← Lib.size_eq] at hUS
    clear hY
    go_enter Tryz.func99, Tryz.ntmps99
    go_wp2
    go_ret
    have hb1 : Below w.heap.size w (w.alloc (.cells M 5)) := (Below.refl _ w).alloc (Nat.le_refl _) _
    have hb2 : Below w.heap.size (w.alloc (.cells M 5)) ((w.alloc (.cells M 5)).setRow w.heap.size Y) := ⟨rfl, rfl, rfl, by simp, fun k hk => setRow_other _ _ _ _ (by omega)⟩
    exact ⟨rfl, Lib.below_freeze (hb1.trans hb2) (p := ⟨w.heap.size, 0, none⟩) (Nat.le_refl _) _⟩
theorem stclone_any (s : ByteArray) (w : World) (hlim : s.size ≤ 281474976710656) :
    Calls Tryz.prog 70 #[.string s] w fun e w' => e = .returned (.string s) ∧ Below w.heap.size w w' := by
  go_enter Tryz.func70, Tryz.ntmps70
  go_wp2_with fail
  refine (slclone_any s w hlim).mono ?_
  rintro e w' ⟨rfl, hb⟩
  go_wp2
  go_ret
  exact ⟨rfl, hb⟩

theorem OwnB.take {w : World} {base : Nat} {a : Option Addr} {cap : Nat} {l : List UInt8} (h : OwnB w base a cap l) (M : Nat) (hM : M ≤ l.length) : OwnB w base a cap (l.take M) := by
  rcases h.cases with ⟨rfl, rfl, rfl⟩ | ⟨g, cur, rfl, hb, hg, hle, hm, hs, ht⟩
  · simpa using OwnB.nil w base
  · have e : (l.take M).length = M := by simp; omega
    refine ⟨by simp [bs], .inr ⟨g, cap, cur, rfl, hb, hg, by omega, hm, by simpa using hs, ?_⟩⟩
    rw [Nat.mul_one, e]
    have : cur.toList.take M = (cur.toList.take l.length).take M := by rw [List.take_take, Nat.min_eq_left hM]
    rw [this, ht]
    unfold bs
    rw [List.map_take]
/-- own[:M]. -/
theorem own_cut {w : World} {base : Nat} {a : Option Addr} {cap : Nat} {l : List UInt8} (h : OwnB w base a cap l) (M : Nat) (hM : M ≤ l.length) (W : World) :
    (Instr.slice 86 (.slice a l.length cap) none (some (.int .i64 (M : Int))) none).run Tryz.prog W = .ok (.slice a M cap) W := by
  have hle := h.toBs.le
  rw [run_slice_h (P := Tryz.prog) W 86 _ l.length cap Tryz.elemB .i64 (M : Int) (by omega) (by omega), Tryz.sizeB]
  simp only [Result.andThen, sliced, Int.toNat_natCast, Nat.sub_zero]
  rcases h.cases with ⟨rfl, rfl, rfl⟩ | ⟨g, cur, rfl, _⟩
  · simp
  · simp only [Option.map_some, Nat.zero_mul, addr_add, Nat.add_zero, ite_self]

set_option maxRecDepth 20000 in
set_option maxHeartbeats 1000000 in
theorem over_any (base : Nat) (a : Option Addr) (cap : Nat) (l : List UInt8) (p : Nat) (P : Int) (x : Option Addr) (c : Nat) (b : List UInt8) (w : World) (HP : Hid (P = (p : Int))) (ho : OwnB w base a cap l) (hb : Bs w x c b) (hne : blk x = none ∨ blk x ≠ blk a) (hl : l.length ≤ 1000000000) (hp : p ≤ 1000000000) (hbl : b.length ≤ 1000000000) (hbase : base ≤ w.heap.size) :
    Calls Tryz.prog 72 #[.slice a l.length cap, .int .i64 P, .slice x b.length c] w fun e w' => ∃ a' cap' r, e = .returned (.slice a' r.length cap') ∧ Hid (r = over l p b) ∧ OwnB w' base a' cap' r ∧ w.grownBy w' (blk a) ∧ Hid (a' = a ∨ ∀ k, blk a' = some k → w.heap.size ≤ k) := by
  obtain ⟨M, hM⟩ : ∃ M, M = min p l.length := ⟨_, rfl⟩
  have hif : (if (l.length : Int) < P then (l.length : Int) else P) = (M : Int) := by rw [hM, unhide HP]; split <;> omega
  have hP0 : 0 ≤ P := by rw [unhide HP]; omega
  have hP1 : P ≤ 1000000000 := by rw [unhide HP]; omega
  have hMl : M ≤ l.length := by omega
  have hMp : M ≤ p := by omega
  have HM := hide hM
  clear hM
  have hcut := own_cut ho M hMl w
  have ho1 := ho.take M hMl
  have hl1 : (l.take M).length = M := by simp; omega
  have HL1 := hide hl1
  clear hl1
  go_enter Tryz.func72, Tryz.ntmps72
  go_wp2_with (at_builtin; go_loud (refine wp_app0 _ rfl _ _ rfl base a cap (l.take M) M rfl (unhide HL1).symm ho1 _ (p - M) rfl ?c1 ?c2 ?c3 ?_))
  case c1 => rw [unhide HP]; omega
  case c2 => have := unhide HL1; omega
  case c3 => omega
  intro a2 cap2 r2 w2 hr2 ho2 hg2 hloc2
  have hb2 : Bs w2 x c b := hb.grown hg2 hne
  have hr2l : r2.length = p := by
    rw [unhide hr2]; simp; have := unhide HL1; omega
  have HR2 := hide hr2l
  clear hr2l hcut hif
  have hs2 := hg2.size
  go_wp2_with (at_builtin; refine wp_app2 _ rfl _ _ rfl base a2 cap2 r2 rfl ho2 x c b b.length rfl rfl hb2.row hb2.nz ?d5 ?d6 ?_)
  case d5 => have := unhide HR2; omega
  case d6 => omega
  intro a3 cap3 r3 w3 hr3 ho3 hg3 hloc3
  have HO : Hid (r3 = over l p b) := by
    show _ = _
    rw [unhide hr3, unhide hr2]
    unfold over
    have e1 : l.take M = l.take p := by
      have := unhide HM
      rcases Nat.le_total p l.length with h | h
      · rw [show M = p by omega]
      · rw [show M = l.length by omega, List.take_length, List.take_of_length_le h]
    have e2 : p - M = p - l.length := by have := unhide HM; omega
    rw [e1, e2]
  have HG : Hid (w.grownBy w3 (blk a)) := by
    refine ⟨hg3.os.trans hg2.os, hg3.tape.trans hg2.tape, hg3.output.trans hg2.output, Nat.le_trans hg2.size hg3.size, fun k hk hne => ?_⟩
    refine (hg3.block k (by omega) ?_).trans (hg2.block k hk hne)
    rcases unhide hloc2 with e | e
    · rw [e]; exact hne
    · intro h; have := e k h.symm; omega
  have HLoc : Hid (a3 = a ∨ ∀ k, blk a3 = some k → w.heap.size ≤ k) := by
    rcases unhide hloc3 with e | e
    · rw [e]; exact unhide hloc2
    · exact .inr fun k hk => Nat.le_trans hs2 (e k hk)
  clear hr3 hr2 hg2 hg3 hloc2 hloc3
  go_wp2
  go_ret
  exact ⟨a3, cap3, r3, rfl, HO, ho3, unhide HG, HLoc⟩
#print axioms over_any
end Go.Proofs.YtmcgghjeocnpnaaGreatDoor
end
