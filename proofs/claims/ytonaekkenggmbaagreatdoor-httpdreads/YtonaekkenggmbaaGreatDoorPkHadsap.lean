/-
  httpd: readHead: what a head says.; httpd: readHead, whatever the head.; httpd's Parse as mathematics: what becomes of beginnings, and of what stands behind.; httpd: what Parse answers: P8.12.; P8.11 as mathematics: the names of fields in other letters change nothing.; httpd: all requests that bytes tell, as mathematics (P8.7).; P8.11 as mathematics: the whole.
-/
import Derived.Test.YtonaekkenggmbaaGreatDoorPkHadsam
import Derived.Test.YtonaekkenggmbaaGreatDoorPkHadsan
import Derived.Test.YtonaekkenggmbaaGreatDoorPkHadsao
section
set_option linter.unusedVariables false
set_option maxRecDepth 1000000
namespace Go.Proofs.YtonaekkenggmbaaGreatDoor
open Go.RowKit

def fm0 : Fm := ⟨false, 0⟩
/-- What a head says. -/
def RM : HdM := fun h =>
  let L := Lib.split h [13, 10]
  if L.any bad then (Rq.nil, fm0, 400)
  else if (rfM (L.getD 0 [])).2.2 ≠ 0 then (Rq.nil, fm0, (rfM (L.getD 0 [])).2.2)
  else if (rhM (L.drop 1) []).2 ≠ 0 then (Rq.nil, fm0, (rhM (L.drop 1) []).2)
  else if (fmM (vals wTE (rhM (L.drop 1) []).1) (vals wHost (rhM (L.drop 1) []).1) (vals wCL (rhM (L.drop 1) []).1)).2 ≠ 0 then (Rq.nil, fm0, (fmM (vals wTE (rhM (L.drop 1) []).1) (vals wHost (rhM (L.drop 1) []).1) (vals wCL (rhM (L.drop 1) []).1)).2)
  else (⟨(rfM (L.getD 0 [])).1, (rfM (L.getD 0 [])).2.1, (rhM (L.drop 1) []).1, []⟩, (fmM (vals wTE (rhM (L.drop 1) []).1) (vals wHost (rhM (L.drop 1) []).1) (vals wCL (rhM (L.drop 1) []).1)).1, 0)
theorem rfM_st (l : List UInt8) : (rfM l).2.2 ≠ 1 := by
  unfold rfM
  repeat' split
  all_goals simp
theorem fmM_ok (a b c : List (List UInt8)) : (fmM a b c).1.n ≤ 32768 ∧ (fmM a b c).2 ≠ 1 := by
  unfold fmM
  repeat' split
  all_goals simp
  all_goals omega
theorem rhM_st : ∀ (L : List (List UInt8)) (acc : List Hd), (rhM L acc).2 ≠ 1
  | [], acc => by simp [rhM]
  | l :: L, acc => by
    unfold rhM
    split
    · simp
    · split
      · exact rhM_st L _
      · simp
theorem fld_len (l : List UInt8) (h : Hd) (e : fldM l = some h) : h.1.length ≤ l.length ∧ h.2.length ≤ l.length := by
  unfold fldM at e
  split at e
  · cases e
    have := cut_len l [58]
    exact ⟨by simp [sm]; exact this.1, Nat.le_trans (trm_len _) this.2⟩
  · cases e
theorem rhM_S (N : Nat) : ∀ (L : List (List UInt8)) (acc : List Hd), (∀ x ∈ L, x.length ≤ N) → (∀ h ∈ acc, h.1.length ≤ N ∧ h.2.length ≤ N) → acc.length ≤ 32 → (∀ h ∈ (rhM L acc).1, h.1.length ≤ N ∧ h.2.length ≤ N) ∧ (rhM L acc).1.length ≤ 32
  | [], acc, _, ha, hl => ⟨ha, hl⟩
  | l :: L, acc, hx, ha, hl => by
    unfold rhM
    split
    · simp
    · rename_i h32
      split
      · rename_i h he
        refine rhM_S N L _ (fun x hx2 => hx x (by simp [hx2])) ?_ (by simp; omega)
        intro y hy
        rcases List.mem_append.1 hy with h1 | h1
        · exact ha y h1
        · obtain rfl := List.mem_singleton.1 h1
          have := fld_len l y he
          have hl2 := hx l (by simp)
          omega
      · simp
theorem rok_RM : Rok RM := by
  intro h
  unfold RM
  simp only
  repeat' split
  all_goals (refine ⟨?_, ?_, ?_⟩ <;> first | rfl | (simp [fm0]; done) | exact rfM_st _ | exact rhM_st _ _ | exact (fmM_ok _ _ _).1 | exact (fmM_ok _ _ _).2)
def EnvH (w : World) : Prop := Mx w ∧ Sx w
def BH : Nat := max 1 4 + 1
theorem EnvH.le {w : World} (h : EnvH w) : BH ≤ w.heap.size := by
  obtain ⟨⟨m, hm⟩, ⟨a, b, hs⟩⟩ := h
  have h1 := World.block_lt_of_cell? w _ hm
  have h2 := World.block_lt_of_cell? w _ hs
  simp only at h1 h2
  unfold BH
  omega
theorem ek_envH : EK EnvH BH := by
  intro w w' h hB hk
  obtain ⟨⟨m, hm⟩, ⟨a, b, hs⟩⟩ := h
  have e1 : w'.heap[1]? = w.heap[1]? := hk _ (by unfold BH; omega)
  have e2 : w'.heap[4]? = w.heap[4]? := hk _ (by unfold BH; omega)
  exact ⟨⟨m, by rw [← hm]; simp only [World.cell?, e1]⟩, ⟨a, b, by rw [← hs]; simp only [World.cell?, e2]⟩⟩
#print axioms ek_envH
/-- The two blocks of a result that is nothing. -/
structure Res0 (w wx : World) : Prop where
  below : Below w.heap.size w wx
  r : wx.heap[w.heap.size]? = some (.cells #[.string ⟨#[]⟩, .string ⟨#[]⟩, .slice none 0 0, .slice none 0 0] 39 (0, 0))
  f : wx.heap[w.heap.size + 1]? = some (.cells #[.bool false, .int .i64 0] 152 (0, 0))
theorem Res0.go {w wx wy : World} (h : Res0 w wx) (hb : Below wx.heap.size wx wy) : Res0 w wy :=
  ⟨h.below.trans (hb.mono h.below.size), (hb.block _ (Array.getElem?_eq_some_iff.1 h.r).1).trans h.r, (hb.block _ (Array.getElem?_eq_some_iff.1 h.f).1).trans h.f⟩
end Go.Proofs.YtonaekkenggmbaaGreatDoor
end
section
set_option linter.unusedVariables false
set_option maxRecDepth 1000000
namespace Go.Proofs.YtonaekkenggmbaaGreatDoor
open Go.RowKit

theorem res_end {w wx : World} (h : Res0 w wx) (v0 v1 v2 v3 u0 u1 : Value) :
    ∃ W, W = (((((wx.setCell ⟨w.heap.size, 0, none⟩ v0).setCell ⟨w.heap.size, 1, none⟩ v1).setCell ⟨w.heap.size, 2, none⟩ v2).setCell ⟨w.heap.size, 3, none⟩ v3).setCell ⟨w.heap.size + 1, 0, none⟩ u0).setCell ⟨w.heap.size + 1, 1, none⟩ u1 ∧
      W.cell? ⟨w.heap.size, 0, none⟩ = some v0 ∧ W.cell? ⟨w.heap.size, 1, none⟩ = some v1 ∧ W.cell? ⟨w.heap.size, 2, none⟩ = some v2 ∧ W.cell? ⟨w.heap.size, 3, none⟩ = some v3 ∧ W.cell? ⟨w.heap.size + 1, 0, none⟩ = some u0 ∧ W.cell? ⟨w.heap.size + 1, 1, none⟩ = some u1 ∧ Below w.heap.size w W ∧ (∀ k, k ≠ w.heap.size → k ≠ w.heap.size + 1 → W.heap[k]? = wx.heap[k]?) ∧ W.heap.size = wx.heap.size := by
  have n1 : ∀ (u : World) (i : Nat) (v : Value), (u.setCell ⟨w.heap.size + 1, i, none⟩ v).heap[w.heap.size]? = u.heap[w.heap.size]? := fun u i v => Below.heap_setCell u ⟨w.heap.size + 1, i, none⟩ v _ (by simp)
  have n2 : ∀ (u : World) (i : Nat) (v : Value), (u.setCell ⟨w.heap.size, i, none⟩ v).heap[w.heap.size + 1]? = u.heap[w.heap.size + 1]? := fun u i v => Below.heap_setCell u ⟨w.heap.size, i, none⟩ v _ (by simp)
  obtain ⟨U, hU⟩ : ∃ U, U = ((((wx.setCell ⟨w.heap.size, 0, none⟩ v0).setCell ⟨w.heap.size, 1, none⟩ v1).setCell ⟨w.heap.size, 2, none⟩ v2).setCell ⟨w.heap.size, 3, none⟩ v3) := ⟨_, rfl⟩
  have hUr : U.heap[w.heap.size]? = some (.cells #[v0, v1, v2, v3] 39 (0, 0)) := by
    rw [hU, heap_setCell_same _ _ 3 _ _ _ (heap_setCell_same _ _ 2 _ _ _ (heap_setCell_same _ _ 1 _ _ _ (heap_setCell_same _ _ 0 _ _ _ h.r)))]; rfl
  have hUf : U.heap[w.heap.size + 1]? = some (.cells #[.bool false, .int .i64 0] 152 (0, 0)) := by rw [hU, n2, n2, n2, n2]; exact h.f
  have hWr : ((U.setCell ⟨w.heap.size + 1, 0, none⟩ u0).setCell ⟨w.heap.size + 1, 1, none⟩ u1).heap[w.heap.size]? = some (.cells #[v0, v1, v2, v3] 39 (0, 0)) := by rw [n1, n1]; exact hUr
  have hWf : ((U.setCell ⟨w.heap.size + 1, 0, none⟩ u0).setCell ⟨w.heap.size + 1, 1, none⟩ u1).heap[w.heap.size + 1]? = some (.cells #[u0, u1] 152 (0, 0)) := by
    rw [heap_setCell_same _ _ 1 _ _ _ (heap_setCell_same _ _ 0 _ _ _ hUf)]; rfl
  refine ⟨_, rfl, ?_⟩
  rw [← hU]
  refine ⟨by rw [cell_of_row _ _ 0 _ _ _ hWr]; rfl, by rw [cell_of_row _ _ 1 _ _ _ hWr]; rfl, by rw [cell_of_row _ _ 2 _ _ _ hWr]; rfl, by rw [cell_of_row _ _ 3 _ _ _ hWr]; rfl, by rw [cell_of_row _ _ 0 _ _ _ hWf]; rfl, by rw [cell_of_row _ _ 1 _ _ _ hWf]; rfl, ?_, fun k h1 h2 => ?_, by rw [hU]; simp [World.setCell]⟩
  · have st : ∀ (u : World) (p : Addr) (v : Value), w.heap.size ≤ p.block → Below w.heap.size w u → Below w.heap.size w (u.setCell p v) := fun u p v hp hb => hb.grown (gsc u p v) hb.size (fun k hk => by cases hk; exact hp)
    rw [hU]
    exact st _ _ _ (by simp) (st _ _ _ (by simp) (st _ _ _ (by simp) (st _ _ _ (by simp) (st _ _ _ (by simp) (st _ _ _ (by simp) h.below)))))
  · rw [Below.heap_setCell _ ⟨w.heap.size + 1, 1, none⟩ _ k h2, Below.heap_setCell _ ⟨w.heap.size + 1, 0, none⟩ _ k h2, hU, Below.heap_setCell _ ⟨w.heap.size, 3, none⟩ _ k h1, Below.heap_setCell _ ⟨w.heap.size, 2, none⟩ _ k h1, Below.heap_setCell _ ⟨w.heap.size, 1, none⟩ _ k h1, Below.heap_setCell _ ⟨w.heap.size, 0, none⟩ _ k h1]
theorem res0_end {w wx : World} (h : Res0 w wx) :
    ∃ W, W = (((((wx.setCell ⟨w.heap.size, 0, none⟩ (.string ⟨#[]⟩)).setCell ⟨w.heap.size, 1, none⟩ (.string ⟨#[]⟩)).setCell ⟨w.heap.size, 2, none⟩ (.slice none 0 0)).setCell ⟨w.heap.size, 3, none⟩ (.slice none 0 0)).setCell ⟨w.heap.size + 1, 0, none⟩ (.bool false)).setCell ⟨w.heap.size + 1, 1, none⟩ (.int .i64 0) ∧
      W.cell? ⟨w.heap.size, 0, none⟩ = some (.string ⟨#[]⟩) ∧ W.cell? ⟨w.heap.size, 1, none⟩ = some (.string ⟨#[]⟩) ∧ W.cell? ⟨w.heap.size, 2, none⟩ = some (.slice none 0 0) ∧ W.cell? ⟨w.heap.size, 3, none⟩ = some (.slice none 0 0) ∧ W.cell? ⟨w.heap.size + 1, 0, none⟩ = some (.bool false) ∧ W.cell? ⟨w.heap.size + 1, 1, none⟩ = some (.int .i64 0) ∧ Below w.heap.size w W := by
  obtain ⟨W, h1, h2, h3, h4, h5, h6, h7, h8, _⟩ := res_end h (.string ⟨#[]⟩) (.string ⟨#[]⟩) (.slice none 0 0) (.slice none 0 0) (.bool false) (.int .i64 0)
  exact ⟨W, h1, h2, h3, h4, h5, h6, h7, h8⟩
theorem Res0.cells {w wx : World} (h : Res0 w wx) : (wx.cell? ⟨w.heap.size, 0, none⟩ = some (.string ⟨#[]⟩) ∧ wx.cell? ⟨w.heap.size, 1, none⟩ = some (.string ⟨#[]⟩) ∧ wx.cell? ⟨w.heap.size, 2, none⟩ = some (.slice none 0 0) ∧ wx.cell? ⟨w.heap.size, 3, none⟩ = some (.slice none 0 0) ∧ wx.cell? ⟨w.heap.size + 1, 0, none⟩ = some (.bool false) ∧ wx.cell? ⟨w.heap.size + 1, 1, none⟩ = some (.int .i64 0)) ∧
    (wx.frozen? ⟨w.heap.size, 0, none⟩ = false ∧ wx.frozen? ⟨w.heap.size, 1, none⟩ = false ∧ wx.frozen? ⟨w.heap.size, 2, none⟩ = false ∧ wx.frozen? ⟨w.heap.size, 3, none⟩ = false ∧ wx.frozen? ⟨w.heap.size + 1, 0, none⟩ = false ∧ wx.frozen? ⟨w.heap.size + 1, 1, none⟩ = false) :=
  ⟨⟨by rw [cell_of_row _ _ 0 _ _ _ h.r]; rfl, by rw [cell_of_row _ _ 1 _ _ _ h.r]; rfl, by rw [cell_of_row _ _ 2 _ _ _ h.r]; rfl, by rw [cell_of_row _ _ 3 _ _ _ h.r]; rfl, by rw [cell_of_row _ _ 0 _ _ _ h.f]; rfl, by rw [cell_of_row _ _ 1 _ _ _ h.f]; rfl⟩,
    ⟨frozen_of_row _ _ 0 _ _ h.r, frozen_of_row _ _ 1 _ _ h.r, frozen_of_row _ _ 2 _ _ h.r, frozen_of_row _ _ 3 _ _ h.r, frozen_of_row _ _ 0 _ _ h.f, frozen_of_row _ _ 1 _ _ h.f⟩⟩
theorem Tryz.sizeT (w : World) : (sizeOf (Tryz.prog.elem 85)).run Tryz.prog w = .ok 1 w := by kernel_rfl
theorem Tryz.elemT : Tryz.prog.underlying 85 = some (.slice (Tryz.prog.elem 85)) := by kernel_rfl
theorem tail1 (b c : Nat) (L : List (List UInt8)) (h1 : 1 ≤ L.length) (hc : L.length ≤ c) : ∃ a', (∀ w, (Instr.slice 85 (.slice (some ⟨b, 0, none⟩) L.length c) (some (.int .i64 1)) none none).run Tryz.prog w = .ok (.slice a' (L.drop 1).length (c - 1)) w) ∧ (∀ w, NsO w (some ⟨b, 0, none⟩) L → NsO w a' (L.drop 1)) := by
  refine ⟨if c = 1 then some ⟨b, 0, none⟩ else (some (⟨b, 0, none⟩ : Addr)).map (·.add (1 * 1)), fun w => ?_, fun w h => ⟨fun hne => ?_⟩⟩
  · rw [run_slice_l (P := Tryz.prog) w 85 _ _ c Tryz.elemT .i64 1 (by omega) (by omega), Tryz.sizeT]
    simp only [Result.andThen, sliced, List.length_drop]
    rfl
  · have hl : 1 < L.length := by
      apply Classical.byContradiction
      intro h2
      exact hne (List.drop_eq_nil_of_le (by omega))
    obtain ⟨b', off, he, hcl⟩ := h.mem (by intro e; subst e; simp at hl)
    simp only [Option.some.injEq, Addr.mk.injEq, and_true] at he
    obtain ⟨rfl, rfl⟩ := he
    refine ⟨b, 1, ?_, fun t x hx => ?_⟩
    · rw [if_neg (by omega), Option.map_some, addr_add]
    · rw [List.getElem?_drop] at hx
      have := hcl (1 + t) x hx
      rw [Nat.zero_add] at this
      exact this
set_option maxHeartbeats 1000000 in
theorem readHead_any : RHs EnvH RM := by
  intro x w hl hE
  obtain ⟨T, hT⟩ : ∃ T, RM x = T := ⟨_, rfl⟩
  rw [hT]
  have HT := hide hT
  clear hT
  obtain ⟨V, hV⟩ : ∃ V, V = (w.alloc (.cells #[.string ⟨#[]⟩, .string ⟨#[]⟩, .slice none 0 0, .slice none 0 0] 39)).alloc (.cells #[.bool false, .int .i64 0] 152) := ⟨_, rfl⟩
  have h0 : Res0 w V := by
    refine ⟨by rw [hV]; exact ((Below.refl _ _).alloc (Nat.le_refl _) _).alloc (by simp) _, ?_, ?_⟩
    · rw [hV, Below.heap_alloc _ _ _ (by simp)]; exact heap_alloc_new w _
    · have := heap_alloc_new (w.alloc (.cells #[.string ⟨#[]⟩, .string ⟨#[]⟩, .slice none 0 0, .slice none 0 0] 39)) (.cells #[.bool false, .int .i64 0] 152)
      rw [← hV] at this
      rw [← this]; simp
  have H0 := hide h0
  have HM := hide (hE.1.below h0.below (Nat.le_refl _))
  have HX := hide (hE.2.below h0.below (Nat.le_refl _))
  have HSP := hide (split_gen x [13, 10] V (by omega) (unhide HM) (by decide))
  clear h0 hE
  go_enter Tryz.func119, Tryz.ntmps119
  go_upto_region 1 with fail
  rw [← hV]
  clear hV
  go_upto_region 2 with (go_at_call 88; refine (unhide HSP).mono ?_; rintro e w1 ⟨b, c, L, rfl, HL, hLc, hL1, hL2, HXL, HN, HB1⟩)
  have HR1 := hide ((unhide H0).go (unhide HB1))
  have HM1 := hide ((unhide HM).below (unhide HB1) (Nat.le_refl _))
  have HX1 := hide ((unhide HX).below (unhide HB1) (Nat.le_refl _))
  have HT1 : Hid (T = if L.any bad then (Rq.nil, fm0, 400)
    else if (rfM (L.getD 0 [])).2.2 ≠ 0 then (Rq.nil, fm0, (rfM (L.getD 0 [])).2.2)
    else if (rhM (L.drop 1) []).2 ≠ 0 then (Rq.nil, fm0, (rhM (L.drop 1) []).2)
    else if (fmM (vals wTE (rhM (L.drop 1) []).1) (vals wHost (rhM (L.drop 1) []).1) (vals wCL (rhM (L.drop 1) []).1)).2 ≠ 0 then (Rq.nil, fm0, (fmM (vals wTE (rhM (L.drop 1) []).1) (vals wHost (rhM (L.drop 1) []).1) (vals wCL (rhM (L.drop 1) []).1)).2)
    else (⟨(rfM (L.getD 0 [])).1, (rfM (L.getD 0 [])).2.1, (rhM (L.drop 1) []).1, []⟩, (fmM (vals wTE (rhM (L.drop 1) []).1) (vals wHost (rhM (L.drop 1) []).1) (vals wCL (rhM (L.drop 1) []).1)).1, 0)) := by
    show _ = _
    rw [← unhide HT, unhide HL]
    rfl
  have HXB : Hid (∀ y ∈ L, y.length ≤ 8192) := fun y hy => Nat.le_trans (unhide HXL y hy) hl
  clear HT HL HSP HXL H0 HM HX
  go_wp2
  go_loopw [17] (fun i wr => ∃ k : Nat, k ≤ L.length ∧ i = .int .i64 (k : Int) ∧ Hid ((L.take k).any bad = false) ∧ Hid (Below w1.heap.size w1 wr)) (fun i _ => L.length - (intOf i).toNat)
  case atStart => exact ⟨0, Nat.zero_le _, rfl, rfl, Below.refl _ _⟩
  case round =>
    obtain ⟨k, hk, rfl, HA, HB⟩ := hrel
    have HR := hide ((unhide HR1).go (unhide HB))
    have hN := (unhide HN).below (unhide HB) (Nat.le_refl _)
    obtain ⟨b', off, he, hcl⟩ := hN.mem (by intro e; subst e; simp at hL1)
    simp only [Option.some.injEq, Addr.mk.injEq, and_true] at he
    obtain ⟨rfl, rfl⟩ := he
    by_cases hlt : k < L.length
    · have hlt' : (k : Int) < (L.length : Int) := by omega
      obtain ⟨y, hy⟩ : ∃ y, L[k]? = some y := ⟨_, List.getElem?_eq_getElem hlt⟩
      have c0 := hcl k y hy
      rw [Nat.zero_add] at c0
      have hyl : y.length ≤ 1000000 := by have := unhide HXB y (List.mem_of_getElem? hy); omega
      have hyk : L[k] = y := by rw [List.getElem?_eq_getElem hlt] at hy; exact Option.some.inj hy
      have HC := hide (cany_any y wr hyl)
      cases hb : bad y with
      | true =>
        have HTT : Hid (T = (Rq.nil, fm0, 400)) := by
          show _ = _
          rw [unhide HT1, if_pos]
          exact List.any_eq_true.2 ⟨y, List.mem_of_getElem? hy, hb⟩
        rw [hb] at HC
        clear hb hy hyk hN hcl hlt
        go_upto_region 6 with (go_at_call 141; refine (unhide HC).mono ?_; rintro e w2 ⟨rfl, hb2⟩; have HB2 := hide hb2; clear hb2)
        have HR2 := hide ((unhide HR).go (unhide HB2))
        obtain ⟨⟨x0, x1, x2, x3, x4, x5⟩, ⟨f0, f1, f2, f3, f4, f5⟩⟩ := (unhide HR2).cells
        obtain ⟨W, hW, e0, e1, e2, e3, e4, e5, hBW⟩ := res0_end (unhide HR2)
        have HBF := hide hBW
        clear hBW
        go_wp2_with fail
        rw [← hW]
        refine bodyPost_ret (v := .tuple #[.agg #[.string ⟨#[]⟩, .string ⟨#[]⟩, .slice none 0 0, .slice none 0 0], .agg #[.bool false, .int .i64 0], .int .i64 400]) (by simp [results, Tryz.results119, go_sem, e0, e1, e2, e3, e4, e5]) rfl ⟨none, 0, by rw [unhide HTT]; rfl, ⟨fun h => absurd (by rw [unhide HTT]; rfl) h, by rw [unhide HTT]; exact Nat.zero_le _⟩, fun k hk => (by cases hk), HBF⟩
      | false =>
        have HA2 : Hid ((L.take (k + 1)).any bad = false) := by
          show _ = _
          rw [List.take_succ_eq_append_getElem hlt, List.any_append, unhide HA, hyk]
          simp [hb]
        rw [hb] at HC
        clear hb hy hyk hN hcl hlt
        go_wp2_with (go_at_call 141; refine (unhide HC).mono ?_; rintro e w2 ⟨rfl, hb2⟩; have HB2 := hide hb2; clear hb2)
        have HB3 := hide ((unhide HB).trans ((unhide HB2).mono (unhide HB).size))
        go_roundw
        case rel => exact ⟨k + 1, by omega, by go_num, HA2, HB3⟩
        case measure => simp [intOf]; omega
    · have hlt' : ¬ (k : Int) < (L.length : Int) := by omega
      have HT2 : Hid (T = if (rfM (L.getD 0 [])).2.2 ≠ 0 then (Rq.nil, fm0, (rfM (L.getD 0 [])).2.2)
        else if (rhM (L.drop 1) []).2 ≠ 0 then (Rq.nil, fm0, (rhM (L.drop 1) []).2)
        else if (fmM (vals wTE (rhM (L.drop 1) []).1) (vals wHost (rhM (L.drop 1) []).1) (vals wCL (rhM (L.drop 1) []).1)).2 ≠ 0 then (Rq.nil, fm0, (fmM (vals wTE (rhM (L.drop 1) []).1) (vals wHost (rhM (L.drop 1) []).1) (vals wCL (rhM (L.drop 1) []).1)).2)
        else (⟨(rfM (L.getD 0 [])).1, (rfM (L.getD 0 [])).2.1, (rhM (L.drop 1) []).1, []⟩, (fmM (vals wTE (rhM (L.drop 1) []).1) (vals wHost (rhM (L.drop 1) []).1) (vals wCL (rhM (L.drop 1) []).1)).1, 0)) := by
        show _ = _
        have := unhide HA
        rw [List.take_of_length_le (by omega)] at this
        rw [unhide HT1, this]
        rfl
      have hL0 : L[0]? = some (L.getD 0 []) := by rw [List.getD_eq_getElem?_getD, List.getElem?_eq_getElem (by omega)]; rfl
      have c0 : wr.cell? ⟨b, 0, none⟩ = some (.string (str (L.getD 0 []))) := hcl 0 _ hL0
      have h0l : (L.getD 0 []).length ≤ 1000000 := by have := unhide HXB _ (List.mem_of_getElem? hL0); omega
      obtain ⟨a', hsl, hsN⟩ := tail1 b c L hL1 hLc
      have HRF := hide (readFirst_any (L.getD 0 []) wr h0l ((unhide HM1).below (unhide HB) (Nat.le_refl _)))
      have HNT := hide (hsN wr hN)
      have HS32 := hide (rhM_S 8192 (L.drop 1) [] (fun y hy => unhide HXB y (List.mem_of_mem_drop hy)) (fun h hh => by cases hh) (by decide))
      have hdl : (L.drop 1).length ≤ 1000001 := by rw [List.length_drop]; omega
      have HDX : Hid (∀ y ∈ L.drop 1, y.length ≤ 1000000) := fun y hy => by have := unhide HXB y (List.mem_of_mem_drop hy); omega
      have hpos : (0 : Int) < (L.length : Int) := by omega
      have hone : (1 : Int) ≤ (L.length : Int) := by omega
      clear hL0
      generalize L.getD 0 [] = l0 at HT2 HRF c0 h0l
      generalize L.drop 1 = D at HT2 HNT HS32 hdl HDX hsl
      generalize rfM l0 = F at HT2 HRF
      obtain ⟨m1, m2, s1⟩ := F
      simp only at HT2 HRF
      clear hlt hcl hN hsN HT1 HA
      go_wp2_with fail
      refine (unhide HRF).mono ?_
      rintro e w2 ⟨rfl, HB2⟩
      have HR2 := hide ((unhide HR).go (unhide HB2))
      have HB12 : Hid (Below w1.heap.size w1 w2) := (unhide HB).trans ((unhide HB2).mono (unhide HB).size)
      by_cases hs1 : s1 ≠ 0
      · have hs1' : ((s1 : Int) != 0) = true := by simp; omega
        have HTT : Hid (T = (Rq.nil, fm0, s1)) := by show _ = _; rw [unhide HT2, if_pos hs1]
        clear hs1 HT2
        obtain ⟨⟨x0, x1, x2, x3, x4, x5⟩, ⟨f0, f1, f2, f3, f4, f5⟩⟩ := (unhide HR2).cells
        obtain ⟨W, hW, e0, e1, e2, e3, e4, e5, hBW⟩ := res0_end (unhide HR2)
        have HBF := hide hBW
        clear hBW
        go_wp2_with fail
        rw [← hW]
        refine bodyPost_ret (v := .tuple #[.agg #[.string ⟨#[]⟩, .string ⟨#[]⟩, .slice none 0 0, .slice none 0 0], .agg #[.bool false, .int .i64 0], .int .i64 (s1 : Int)]) (by simp [results, Tryz.results119, go_sem, e0, e1, e2, e3, e4, e5]) rfl ⟨none, 0, by rw [unhide HTT]; rfl, ⟨fun h => absurd (by rw [unhide HTT]; rfl) h, by rw [unhide HTT]; exact Nat.zero_le _⟩, fun k hk => (by cases hk), HBF⟩
      have hs1 := Classical.not_not.1 hs1
      subst hs1
      have HT3 : Hid (T = if (rhM D []).2 ≠ 0 then (Rq.nil, fm0, (rhM D []).2)
        else if (fmM (vals wTE (rhM D []).1) (vals wHost (rhM D []).1) (vals wCL (rhM D []).1)).2 ≠ 0 then (Rq.nil, fm0, (fmM (vals wTE (rhM D []).1) (vals wHost (rhM D []).1) (vals wCL (rhM D []).1)).2)
        else (⟨m1, m2, (rhM D []).1, []⟩, (fmM (vals wTE (rhM D []).1) (vals wHost (rhM D []).1) (vals wCL (rhM D []).1)).1, 0)) := by
        show _ = _
        rw [unhide HT2, if_neg (by simp)]
      have HRH := hide (readHeaders_any a' (c - 1) D w2 ((unhide HNT).below (unhide HB2) (Nat.le_refl _)) (unhide HDX) hdl ((unhide HM1).below (unhide HB12) (Nat.le_refl _)))
      generalize rhM D [] = P2 at HT3 HRH HS32
      obtain ⟨Hs, s2⟩ := P2
      simp only at HT3 HRH HS32
      clear HT2 c0
      go_wp2_with fail
      refine (unhide HRH).mono ?_
      rintro e w3 ⟨ha, hcap, rfl, HO3, HB3⟩
      have HR3 := hide ((unhide HR2).go (unhide HB3))
      have HB13 : Hid (Below w1.heap.size w1 w3) := (unhide HB12).trans ((unhide HB3).mono (unhide HB12).size)
      by_cases hs2 : s2 ≠ 0
      · have hs2' : ((s2 : Int) != 0) = true := by simp; omega
        have HTT : Hid (T = (Rq.nil, fm0, s2)) := by show _ = _; rw [unhide HT3, if_pos hs2]
        clear hs2 HT3
        obtain ⟨⟨x0, x1, x2, x3, x4, x5⟩, ⟨f0, f1, f2, f3, f4, f5⟩⟩ := (unhide HR3).cells
        obtain ⟨W, hW, e0, e1, e2, e3, e4, e5, hBW⟩ := res0_end (unhide HR3)
        have HBF := hide hBW
        clear hBW
        go_wp2_with fail
        rw [← hW]
        refine bodyPost_ret (v := .tuple #[.agg #[.string ⟨#[]⟩, .string ⟨#[]⟩, .slice none 0 0, .slice none 0 0], .agg #[.bool false, .int .i64 0], .int .i64 (s2 : Int)]) (by simp [results, Tryz.results119, go_sem, e0, e1, e2, e3, e4, e5]) rfl ⟨none, 0, by rw [unhide HTT]; rfl, ⟨fun h => absurd (by rw [unhide HTT]; rfl) h, by rw [unhide HTT]; exact Nat.zero_le _⟩, fun k hk => (by cases hk), HBF⟩
      have hs2 := Classical.not_not.1 hs2
      subst hs2
      have HT4 : Hid (T = if (fmM (vals wTE Hs) (vals wHost Hs) (vals wCL Hs)).2 ≠ 0 then (Rq.nil, fm0, (fmM (vals wTE Hs) (vals wHost Hs) (vals wCL Hs)).2) else (⟨m1, m2, Hs, []⟩, (fmM (vals wTE Hs) (vals wHost Hs) (vals wCL Hs)).1, 0)) := by
        show _ = _
        rw [unhide HT3, if_neg (by simp)]
      have hHl : Hs.length ≤ 1000000 := by have := (unhide HS32).2; omega
      have hHS : HdS Hs := fun t h ht => by have := (unhide HS32).1 h (List.mem_of_getElem? ht); omega
      have HRM := hide (readForm_any ha hcap Hs w3 (unhide HO3).hdR hHS hHl ((unhide HX1).below (unhide HB13) (Nat.le_refl _)))
      generalize fmM (vals wTE Hs) (vals wHost Hs) (vals wCL Hs) = P3 at HT4 HRM
      obtain ⟨⟨fc, fn⟩, s3⟩ := P3
      simp only at HT4 HRM
      clear HT3 hHS
      go_wp2_with fail
      refine (unhide HRM).mono ?_
      rintro e w4 ⟨rfl, HB4⟩
      obtain ⟨V5, hV5⟩ : ∃ V5, V5 = w4.alloc (.cells #[.bool fc, .int .i64 (fn : Int)] 152) := ⟨_, rfl⟩
      have hb5 : Below w4.heap.size w4 V5 := by rw [hV5]; exact (Below.refl _ _).alloc (Nat.le_refl _) _
      have h5 : V5.heap[w4.heap.size]? = some (.cells #[.bool fc, .int .i64 (fn : Int)] 152 (0, 0)) := by rw [hV5]; exact heap_alloc_new w4 _
      have HR5 := hide (((unhide HR3).go (unhide HB4)).go hb5)
      have HH5 := hide (((unhide HO3).hdR.below (unhide HB4) (Nat.le_refl _)).below hb5 (Nat.le_refl _))
      have HLT : Hid (∀ k, blk ha = some k → w2.heap.size ≤ k ∧ k < V5.heap.size) := fun k hk => ⟨((unhide HO3).lt k hk).1, Nat.lt_of_lt_of_le ((unhide HO3).lt k hk).2 (Nat.le_trans (unhide HB4).size hb5.size)⟩
      have g0 : V5.cell? ⟨w4.heap.size, 0, none⟩ = some (.bool fc) := by rw [cell_of_row _ _ 0 _ _ _ h5]; rfl
      have g1 : V5.cell? ⟨w4.heap.size, 1, none⟩ = some (.int .i64 (fn : Int)) := by rw [cell_of_row _ _ 1 _ _ _ h5]; rfl
      have hws : w.heap.size + 1 < w4.heap.size := Nat.lt_of_lt_of_le (Array.getElem?_eq_some_iff.1 (unhide HR3).f).1 (unhide HB4).size
      have hw2s : w.heap.size + 1 < w2.heap.size := (Array.getElem?_eq_some_iff.1 (unhide HR2).f).1
      clear hb5 h5
      go_upto_region 15 with fail
      rw [← hV5]
      clear hV5
      by_cases hs3 : s3 ≠ 0
      · have hs3' : ((s3 : Int) != 0) = true := by simp; omega
        have HTT : Hid (T = (Rq.nil, fm0, s3)) := by show _ = _; rw [unhide HT4, if_pos hs3]
        clear hs3 HT4
        obtain ⟨⟨x0, x1, x2, x3, x4, x5⟩, ⟨f0, f1, f2, f3, f4, f5⟩⟩ := (unhide HR5).cells
        obtain ⟨W, hW, e0, e1, e2, e3, e4, e5, hBW⟩ := res0_end (unhide HR5)
        have HBF := hide hBW
        clear hBW
        go_wp2_with fail
        rw [← hW]
        refine bodyPost_ret (v := .tuple #[.agg #[.string ⟨#[]⟩, .string ⟨#[]⟩, .slice none 0 0, .slice none 0 0], .agg #[.bool false, .int .i64 0], .int .i64 (s3 : Int)]) (by simp [results, Tryz.results119, go_sem, e0, e1, e2, e3, e4, e5]) rfl ⟨none, 0, by rw [unhide HTT]; rfl, ⟨fun h => absurd (by rw [unhide HTT]; rfl) h, by rw [unhide HTT]; exact Nat.zero_le _⟩, fun k hk => (by cases hk), HBF⟩
      have hs3 := Classical.not_not.1 hs3
      subst hs3
      have HTT : Hid (T = (⟨m1, m2, Hs, []⟩, ⟨fc, fn⟩, 0)) := by show _ = _; rw [unhide HT4, if_neg (by simp)]
      clear HT4
      obtain ⟨⟨x0, x1, x2, x3, x4, x5⟩, ⟨f0, f1, f2, f3, f4, f5⟩⟩ := (unhide HR5).cells
      go_upto_region 17 with fail
      obtain ⟨W, hW, e0, e1, e2, e3, e4, e5, hBW, hoth, hszW⟩ := res_end (unhide HR5) (.string (str m1)) (.string (str m2)) (.slice ha Hs.length hcap) (.slice none 0 0) (.bool fc) (.int .i64 (fn : Int))
      have HBF := hide hBW
      have HHW : Hid (HdR W ha Hs) := (unhide HH5).same (fun k hk _ => hoth k (by have := (unhide HLT k hk).1; omega) (by have := (unhide HLT k hk).1; omega))
      have HLW : Hid (∀ k, blk ha = some k → w.heap.size ≤ k ∧ k < W.heap.size) := fun k hk => ⟨by have := (unhide HLT k hk).1; omega, by rw [hszW]; exact (unhide HLT k hk).2⟩
      clear hBW hoth hszW
      go_region
      rw [← hW]
      clear hW
      go_wp2
      refine bodyPost_ret (v := .tuple #[.agg #[.string (str m1), .string (str m2), .slice ha Hs.length hcap, .slice none 0 0], .agg #[.bool fc, .int .i64 (fn : Int)], .int .i64 0]) (by simp [results, Tryz.results119, go_sem, e0, e1, e2, e3, e4, e5]) rfl ⟨ha, hcap, by rw [unhide HTT]; rfl, ?_, ?_, ?_⟩
      · rw [unhide HTT]; exact (unhide HHW).below ((Below.refl W.heap.size W).drew) (Nat.le_refl _)
      · exact HLW
      · exact (unhide HBF).drew
#print axioms readHead_any
end Go.Proofs.YtonaekkenggmbaaGreatDoor
end
section
set_option linter.unusedVariables false
set_option maxRecDepth 1000000
namespace Go.Proofs.YtonaekkenggmbaaGreatDoor
open Go.RowKit

/-- Is a head still read? -/
def isH : St → Prop
  | .head _ => True
  | _ => False
theorem cb_st (n : Nat) (Q : Rq) : (cbM n Q).1 = 413 ∨ ((cbM n Q).1 = 1 ∧ ¬ isH (cbM n Q).2) := by
  unfold cbM
  split
  · exact .inl rfl
  · split
    · exact .inr ⟨rfl, id⟩
    · exact .inr ⟨rfl, id⟩
theorem th_st (t : Th) (S : St) (Q : Rq) : (thM t S Q).1 = 413 ∨ (thM t S Q).1 = 0 ∨ ((thM t S Q).1 = 1 ∧ ¬ isH (thM t S Q).2) := by
  cases t with
  | fin => exact .inr (.inl rfl)
  | chk => exact .inr (.inr ⟨rfl, id⟩)
  | cb n => rcases cb_st n Q with h | h
            · exact .inl h
            · exact .inr (.inr h)
  | tl => exact .inr (.inr ⟨rfl, id⟩)
/-- A status that refuses. -/
def Sok (R : HdM) (s : Nat) : Prop := s = 413 ∨ s = 431 ∨ s = 400 ∨ ∃ h, s = (R h).2.2
theorem step_kind (R : HdM) (hR : Rok R) (P : List Hd → Prop) (hP : ∀ h, (R h).2.2 = 0 → P (R h).1.h) (S : St) (Q : Rq) (c : UInt8) (hi : ¬ isH S → P Q.h) (hok : okQ S Q) :
    ((stepM R S Q c).1 = 0 → P (stepM R S Q c).2.2.h ∧ (stepM R S Q c).2.2.b.length ≤ 32768) ∧ ((stepM R S Q c).1 = 1 → ¬ isH (stepM R S Q c).2.1 → P (stepM R S Q c).2.2.h) ∧ ((stepM R S Q c).1 ≠ 0 → (stepM R S Q c).1 ≠ 1 → Sok R (stepM R S Q c).1) := by
  have hl := okQ_len hok
  cases S with
  | head x =>
    simp only [stepM]
    split
    · unfold bhM
      obtain ⟨r1, r2, r3⟩ := hR (List.take (x.length + 1 - 4) (x ++ [c]))
      have hp := hP (List.take (x.length + 1 - 4) (x ++ [c]))
      simp only
      split
      · rename_i h0
        exact ⟨fun h => absurd h h0, fun h => absurd h r3, fun _ _ => .inr (.inr (.inr ⟨_, rfl⟩))⟩
      · rename_i h0
        have hp0 := hp (by omega)
        split
        · exact ⟨fun h => by simp at h, fun _ _ => hp0, fun _ h => absurd rfl h⟩
        · split
          · exact ⟨fun _ => ⟨hp0, by simp only [r1]; simp⟩, fun h => by simp at h, fun h => absurd rfl h⟩
          · exact ⟨fun h => by simp at h, fun _ _ => hp0, fun _ h => absurd rfl h⟩
    · split
      · exact ⟨fun h => by simp at h, fun h => by simp at h, fun _ _ => .inr (.inl rfl)⟩
      · exact ⟨fun h => by simp at h, fun _ h => absurd trivial h, fun _ h => absurd rfl h⟩
  | bytes n t =>
    have hq := hi id
    simp only [okQ] at hok
    simp only [stepM]
    split
    · exact ⟨fun h => by simp at h, fun _ _ => hq, fun _ h => absurd rfl h⟩
    · refine ⟨fun h => ⟨hq, by simp; omega⟩, fun _ _ => hq, fun h0 h1 => ?_⟩
      rcases th_st t (.bytes n t) { Q with b := Q.b ++ [c] } with h | h | h
      · exact .inl h
      · exact absurd h h0
      · exact absurd h.1 h1
  | text u a t =>
    have hq := hi id
    simp only [stepM]
    split
    · exact ⟨fun h => by simp at h, fun h => by simp at h, fun _ _ => .inr (.inr (.inl rfl))⟩
    · split
      · exact ⟨fun h => by simp at h, fun _ _ => hq, fun _ h => absurd rfl h⟩
      · refine ⟨fun h => ⟨hq, hl⟩, fun _ _ => hq, fun h0 h1 => ?_⟩
        rcases th_st t (.text u a t) Q with h | h | h
        · exact .inl h
        · exact absurd h h0
        · exact absurd h.1 h1
  | chunk n d =>
    have hq := hi id
    simp only [stepM]
    split <;> (repeat' split)
    all_goals first
      | exact ⟨fun h => by simp at h, fun _ _ => hq, fun _ h => absurd rfl h⟩
      | exact ⟨fun h => by simp at h, fun h => by simp at h, fun _ _ => .inr (.inr (.inl rfl))⟩
theorem run_kind (R : HdM) (hR : Rok R) (P : List Hd → Prop) (hP : ∀ h, (R h).2.2 = 0 → P (R h).1.h) : ∀ (l : List UInt8) (S : St) (Q : Rq), (¬ isH S → P Q.h) → okQ S Q →
    ((runM R S Q l).2.1 = 0 → P (runM R S Q l).2.2.2.h ∧ (runM R S Q l).2.2.2.b.length ≤ 32768 ∧ 1 ≤ (runM R S Q l).1) ∧ ((runM R S Q l).2.1 ≠ 0 → (runM R S Q l).2.1 ≠ 1 → Sok R (runM R S Q l).2.1)
  | [], S, Q, hi, hok => ⟨fun h => by simp [runM] at h, fun _ h => absurd rfl h⟩
  | c :: l, S, Q, hi, hok => by
    obtain ⟨k0, k1, k2⟩ := step_kind R hR P hP S Q c hi hok
    by_cases h1 : (stepM R S Q c).1 = 1
    · rw [runM_one R S Q c l h1]
      obtain ⟨i1, i2⟩ := run_kind R hR P hP l (stepM R S Q c).2.1 (stepM R S Q c).2.2 (k1 h1) (okQ_step R hR S Q c hok h1)
      exact ⟨fun h => ⟨(i1 h).1, (i1 h).2.1, by simp⟩, i2⟩
    · rw [runM_end R S Q c l h1]
      exact ⟨fun h => ⟨(k0 h).1, (k0 h).2, Nat.le_refl _⟩, fun h0 h1 => k2 h0 h1⟩
/-- P8.1, as the program has it. -/
def pM (l : List UInt8) : Rq × Nat × Nat := parseM RM l
theorem pM_no (l : List UInt8) (h : (pM l).2.2 ≠ 0) : pM l = (Rq.nil, 0, (pM l).2.2) := by
  unfold pM parseM at h ⊢
  simp only at h ⊢
  split
  · rename_i h1; rw [if_pos h1] at h; exact absurd rfl h
  · rfl
theorem pM_yes (l : List UInt8) (h : (pM l).2.2 = 0) : (runM RM (.head []) Rq.nil l).2.1 = 0 ∧ pM l = ((runM RM (.head []) Rq.nil l).2.2.2, (runM RM (.head []) Rq.nil l).1, 0) := by
  unfold pM parseM at h ⊢
  simp only at h ⊢
  split
  · rename_i h1; exact ⟨h1, rfl⟩
  · rename_i h1; rw [if_neg h1] at h; exact absurd h h1
theorem RM_h (h : List UInt8) : (RM h).1.h.length ≤ 32 := by
  unfold RM
  simp only
  repeat' split
  all_goals first | exact Nat.zero_le _ | skip
  exact (rhM_S (Lib.split h [13, 10]).flatten.length _ [] (fun x hx => List.Sublist.length_le (List.sublist_flatten_of_mem (List.mem_of_mem_drop hx))) (by simp) (by simp)).2
theorem pM_hl (l : List UInt8) : (pM l).1.h.length ≤ 32 ∧ (pM l).1.b.length ≤ 32768 := by
  by_cases h : (pM l).2.2 = 0
  · obtain ⟨h1, h2⟩ := pM_yes l h
    rw [h2]
    have := (run_kind RM rok_RM (fun H => H.length ≤ 32) (fun h _ => RM_h h) l (.head []) Rq.nil (fun h => absurd trivial h) (by simp [okQ, Rq.nil])).1 h1
    exact ⟨this.1, this.2.1⟩
  · rw [pM_no l h]; simp [Rq.nil]
theorem pM_n (l : List UInt8) (h : (pM l).2.2 = 0) : 1 ≤ (pM l).2.1 ∧ (pM l).2.1 ≤ l.length := by
  obtain ⟨h1, h2⟩ := pM_yes l h
  rw [h2]
  exact ⟨((run_kind RM rok_RM (fun H => H.length ≤ 32) (fun h _ => RM_h h) l (.head []) Rq.nil (fun h => absurd trivial h) (by simp [okQ, Rq.nil])).1 h1).2.2, runM_le _ _ _ _⟩
/-- P8.9: a shorter beginning asks for more. -/
theorem pM_short (l : List UInt8) (h : (pM l).2.2 = 0) (k : Nat) (hk : k < (pM l).2.1) : pM (l.take k) = (Rq.nil, 0, 1) := by
  obtain ⟨h1, h2⟩ := pM_yes l h
  rw [h2] at hk
  have := (runM_cut RM l (.head []) Rq.nil (by rw [h1]; simp)).1 k hk
  unfold pM parseM
  simp only [this]
  simp
/-- P8.9: more behind it changes nothing. -/
theorem pM_more (l r : List UInt8) (h : (pM l).2.2 = 0) : pM (l.take (pM l).2.1 ++ r) = pM l := by
  obtain ⟨h1, h2⟩ := pM_yes l h
  have hc := (runM_cut RM l (.head []) Rq.nil (by rw [h1]; simp)).2
  have hn : (pM l).2.1 = (runM RM (.head []) Rq.nil l).1 := by rw [h2]
  have ha : runM RM (.head []) Rq.nil (l.take (runM RM (.head []) Rq.nil l).1 ++ r) = runM RM (.head []) Rq.nil l := by
    rw [runM_app, hc, if_neg (by rw [h1]; simp)]
  rw [hn, h2]
  unfold pM parseM
  simp only [ha, h1, if_true]
end Go.Proofs.YtonaekkenggmbaaGreatDoor
end
section
set_option linter.unusedVariables false
set_option maxRecDepth 1000000
namespace Go.Proofs.YtonaekkenggmbaaGreatDoor
open Go.RowKit

theorem step_kindN (R : HdM) (hR : Rok R) (P : List Hd → Prop) (S : St) (Q : Rq) (c : UInt8) (hP : ∀ x h, S = .head x → h.length ≤ x.length + 1 → (R h).2.2 = 0 → P (R h).1.h) (hi : ¬ isH S → P Q.h) (hok : okQ S Q) :
    ((stepM R S Q c).1 = 0 → P (stepM R S Q c).2.2.h ∧ (stepM R S Q c).2.2.b.length ≤ 32768) ∧ ((stepM R S Q c).1 = 1 → ¬ isH (stepM R S Q c).2.1 → P (stepM R S Q c).2.2.h) ∧ ((stepM R S Q c).1 ≠ 0 → (stepM R S Q c).1 ≠ 1 → Sok R (stepM R S Q c).1) := by
  have hl := okQ_len hok
  cases S with
  | head x =>
    simp only [stepM]
    split
    · unfold bhM
      obtain ⟨r1, r2, r3⟩ := hR (List.take (x.length + 1 - 4) (x ++ [c]))
      have hp := hP x (List.take (x.length + 1 - 4) (x ++ [c])) rfl (by simp; omega)
      simp only
      split
      · rename_i h0
        exact ⟨fun h => absurd h h0, fun h => absurd h r3, fun _ _ => .inr (.inr (.inr ⟨_, rfl⟩))⟩
      · rename_i h0
        have hp0 := hp (by omega)
        split
        · exact ⟨fun h => by simp at h, fun _ _ => hp0, fun _ h => absurd rfl h⟩
        · split
          · exact ⟨fun _ => ⟨hp0, by simp only [r1]; simp⟩, fun h => by simp at h, fun h => absurd rfl h⟩
          · exact ⟨fun h => by simp at h, fun _ _ => hp0, fun _ h => absurd rfl h⟩
    · split
      · exact ⟨fun h => by simp at h, fun h => by simp at h, fun _ _ => .inr (.inl rfl)⟩
      · exact ⟨fun h => by simp at h, fun _ h => absurd trivial h, fun _ h => absurd rfl h⟩
  | bytes n t =>
    have hq := hi id
    simp only [okQ] at hok
    simp only [stepM]
    split
    · exact ⟨fun h => by simp at h, fun _ _ => hq, fun _ h => absurd rfl h⟩
    · refine ⟨fun h => ⟨hq, by simp; omega⟩, fun _ _ => hq, fun h0 h1 => ?_⟩
      rcases th_st t (.bytes n t) { Q with b := Q.b ++ [c] } with h | h | h
      · exact .inl h
      · exact absurd h h0
      · exact absurd h.1 h1
  | text u a t =>
    have hq := hi id
    simp only [stepM]
    split
    · exact ⟨fun h => by simp at h, fun h => by simp at h, fun _ _ => .inr (.inr (.inl rfl))⟩
    · split
      · exact ⟨fun h => by simp at h, fun _ _ => hq, fun _ h => absurd rfl h⟩
      · refine ⟨fun h => ⟨hq, hl⟩, fun _ _ => hq, fun h0 h1 => ?_⟩
        rcases th_st t (.text u a t) Q with h | h | h
        · exact .inl h
        · exact absurd h h0
        · exact absurd h.1 h1
  | chunk n d =>
    have hq := hi id
    simp only [stepM]
    split <;> (repeat' split)
    all_goals first
      | exact ⟨fun h => by simp at h, fun _ _ => hq, fun _ h => absurd rfl h⟩
      | exact ⟨fun h => by simp at h, fun h => by simp at h, fun _ _ => .inr (.inr (.inl rfl))⟩
theorem step_head (R : HdM) (hR : Rok R) (S : St) (Q : Rq) (c : UInt8) (x : List UInt8) (h1 : (stepM R S Q c).1 = 1) (h : (stepM R S Q c).2.1 = .head x) : ∃ y, S = .head y ∧ x.length = y.length + 1 := by
  have hno : ∀ S', ¬ isH S' → S' ≠ .head x := fun S' h e => h (by rw [e]; exact trivial)
  cases S with
  | head y =>
    refine ⟨y, rfl, ?_⟩
    simp only [stepM] at h1 h
    split at h
    · rename_i hs
      rw [if_pos hs] at h1
      unfold bhM at h h1
      simp only at h h1
      split at h
      · rename_i h0; rw [if_pos h0] at h1; exact absurd h1 (hR _).2.2
      · split at h
        · cases h
        · split at h
          · rename_i a b c2; rw [if_neg a, if_neg b, if_pos c2] at h1; simp at h1
          · cases h
    · rename_i hs
      rw [if_neg hs] at h1
      split at h
      · rename_i h2; rw [if_pos h2] at h1; simp at h1
      · cases h; simp
  | bytes n t =>
    simp only [stepM] at h1 h
    split at h
    · cases h
    · rename_i h2
      rw [if_neg h2] at h1
      rcases th_st t (.bytes n t) { Q with b := Q.b ++ [c] } with k | k | k
      · simp only [k] at h1; simp at h1
      · simp only [k] at h1; simp at h1
      · exact absurd h (hno _ k.2)
  | text u a t =>
    simp only [stepM] at h1 h
    split at h
    · cases h
    · rename_i h2
      rw [if_neg h2] at h1
      split at h
      · cases h
      · rename_i h3
        rw [if_neg h3] at h1
        rcases th_st t (.text u a t) Q with k | k | k
        · simp only [k] at h1; simp at h1
        · simp only [k] at h1; simp at h1
        · exact absurd h (hno _ k.2)
  | chunk n d =>
    simp only [stepM] at h1 h
    split at h <;> (repeat' split at h) <;> cases h
theorem run_kindN (R : HdM) (hR : Rok R) (N : Nat) (P : List Hd → Prop) (hP : ∀ h, h.length ≤ N → (R h).2.2 = 0 → P (R h).1.h) : ∀ (l : List UInt8) (S : St) (Q : Rq), (¬ isH S → P Q.h) → okQ S Q → (∀ x, S = .head x → x.length + l.length ≤ N) →
    ((runM R S Q l).2.1 = 0 → P (runM R S Q l).2.2.2.h ∧ (runM R S Q l).2.2.2.b.length ≤ 32768 ∧ 1 ≤ (runM R S Q l).1) ∧ ((runM R S Q l).2.1 ≠ 0 → (runM R S Q l).2.1 ≠ 1 → Sok R (runM R S Q l).2.1)
  | [], S, Q, hi, hok, hN => ⟨fun h => by simp [runM] at h, fun _ h => absurd rfl h⟩
  | c :: l, S, Q, hi, hok, hN => by
    obtain ⟨k0, k1, k2⟩ := step_kindN R hR P S Q c (fun x h e hl => hP h (by have := hN x e; simp at this; omega)) hi hok
    by_cases h1 : (stepM R S Q c).1 = 1
    · rw [runM_one R S Q c l h1]
      obtain ⟨i1, i2⟩ := run_kindN R hR N P hP l (stepM R S Q c).2.1 (stepM R S Q c).2.2 (k1 h1) (okQ_step R hR S Q c hok h1) (fun x hx => by
        obtain ⟨y, e, hy⟩ := step_head R hR S Q c x h1 hx
        have := hN y e
        simp at this
        omega)
      exact ⟨fun h => ⟨(i1 h).1, (i1 h).2.1, by simp⟩, i2⟩
    · rw [runM_end R S Q c l h1]
      exact ⟨fun h => ⟨(k0 h).1, (k0 h).2, Nat.le_refl _⟩, fun h0 h1 => k2 h0 h1⟩

theorem rfM_one (l : List UInt8) : (rfM l).2.2 ∈ [0, 400, 414, 501, 505] := by
  unfold rfM
  repeat' split
  all_goals simp
theorem fmM_one (a b c : List (List UInt8)) : (fmM a b c).2 ∈ [0, 400, 413, 501] := by
  unfold fmM
  repeat' split
  all_goals simp
theorem fmM_host (a b c : List (List UInt8)) (h : (fmM a b c).2 = 0) : b.length = 1 ∧ b.getD 0 [] ≠ [] := by
  unfold fmM at h
  split at h
  · simp at h
  · split at h
    · simp at h
    · rename_i h1
      simpa using h1
theorem rhM_one : ∀ (L : List (List UInt8)) (acc : List Hd), (rhM L acc).2 ∈ [0, 400, 431]
  | [], acc => by simp [rhM]
  | l :: L, acc => by
    unfold rhM
    split
    · simp
    · split
      · exact rhM_one L _
      · simp
theorem RM_one (h : List UInt8) : (RM h).2.2 ∈ [0, 400, 413, 414, 431, 501, 505] := by
  unfold RM
  simp only
  have k1 := rfM_one ((Lib.split h [13, 10]).getD 0 [])
  have k2 := rhM_one ((Lib.split h [13, 10]).drop 1) []
  have k3 := fmM_one (vals wTE (rhM ((Lib.split h [13, 10]).drop 1) []).1) (vals wHost (rhM ((Lib.split h [13, 10]).drop 1) []).1) (vals wCL (rhM ((Lib.split h [13, 10]).drop 1) []).1)
  simp only [List.mem_cons, List.not_mem_nil, or_false] at k1 k2 k3 ⊢
  repeat' split
  all_goals simp only
  all_goals first | omega | decide
/-- What the headers of a request that is taken are. -/
def HOk (N : Nat) (H : List Hd) : Prop := H.length ≤ 32 ∧ (∀ h ∈ H, h.1.length ≤ N ∧ h.2.length ≤ N) ∧ (vals wHost H).length = 1 ∧ (vals wHost H).getD 0 [] ≠ []
theorem RM_ok (N : Nat) (h : List UInt8) (hl : h.length ≤ N) (h0 : (RM h).2.2 = 0) : HOk N (RM h).1.h := by
  have k2 := rhM_S N ((Lib.split h [13, 10]).drop 1) [] (fun x hx => Nat.le_trans (split_len [13, 10] _ h x (List.mem_of_mem_drop hx)) hl) (by simp) (by simp)
  unfold RM at h0 ⊢
  simp only at h0 ⊢
  split at h0
  · simp at h0
  · rename_i a0
    rw [if_neg a0]
    split at h0
    · rename_i a1; exact absurd h0 a1
    · rename_i a1
      rw [if_neg a1]
      split at h0
      · rename_i a2; exact absurd h0 a2
      · rename_i a2
        rw [if_neg a2]
        split at h0
        · rename_i a3; exact absurd h0 a3
        · rename_i a3
          rw [if_neg a3]
          have k3 := fmM_host _ _ _ (Classical.byContradiction fun e => a3 e)
          exact ⟨k2.2, k2.1, k3⟩
theorem pM_ok (l : List UInt8) (h : (pM l).2.2 = 0) : HOk l.length (pM l).1.h := by
  obtain ⟨h1, h2⟩ := pM_yes l h
  rw [h2]
  exact ((run_kindN RM rok_RM l.length (HOk l.length) (RM_ok l.length) l (.head []) Rq.nil (fun h => absurd trivial h) (by simp [okQ, Rq.nil]) (fun x e => by cases e; simp)).1 h1).1
theorem pM_one (l : List UInt8) (h : (pM l).2.2 ≠ 0) : (pM l).2.2 ∈ [1, 400, 413, 414, 431, 501, 505] := by
  have hk := (run_kind RM rok_RM (fun _ => True) (fun _ _ => trivial) l (.head []) Rq.nil (fun h => absurd trivial h) (by simp [okQ, Rq.nil])).2
  unfold pM parseM at h ⊢
  simp only at h ⊢
  split
  · rename_i h1; rw [if_pos h1] at h; exact absurd rfl h
  · rename_i h1
    show (runM RM (.head []) Rq.nil l).2.1 ∈ _
    by_cases h2 : (runM RM (.head []) Rq.nil l).2.1 = 1
    · rw [h2]; simp
    · rcases hk h1 h2 with e | e | e | ⟨x, e⟩
      · rw [e]; simp
      · rw [e]; simp
      · rw [e]; simp
      · have := RM_one x
        rw [← e] at this
        simp only [List.mem_cons, List.not_mem_nil, or_false] at this ⊢
        omega
end Go.Proofs.YtonaekkenggmbaaGreatDoor
end
section
set_option linter.unusedVariables false
set_option maxRecDepth 100000
namespace Go.Proofs.YtonaekkenggmbaaGreatDoor
open Go.RowKit

/-- A letter. -/
def letB (c : UInt8) : Bool := (decide (97 ≤ c.toNat) && decide (c.toNat ≤ 122)) || (decide (65 ≤ c.toNat) && decide (c.toNat ≤ 90))
theorem all256 (P : UInt8 → Prop) [DecidablePred P] (h : ∀ n, n < 256 → P (UInt8.ofNat n)) (c : UInt8) : P c := by
  have := h c.toNat (UInt8.toNat_lt c)
  rwa [UInt8.ofNat_toNat] at this
/-- What another letter keeps. -/
def kpB (c : UInt8) : Bool := !letB c || (tokB (c ^^^ 32) == tokB c && (sm [c ^^^ 32] == sm [c] && (!(c ^^^ 32 == 13) && (!(c ^^^ 32 == 10) && (!(c ^^^ 32 == 58) && (!(c == 13) && (!(c == 10) && !(c == 58))))))))
set_option maxRecDepth 100000 in
theorem kpB_all (c : UInt8) : kpB c = true := all256 (fun c => kpB c = true) (by decide +kernel) c
/-- One byte: as it was, or, in a name, the same letter otherwise. -/
def Fs (nm : Bool) (x y : UInt8) : Prop := y = x ∨ (nm = true ∧ letB x = true ∧ y = x ^^^ 32)
def nx (nm : Bool) (x : UInt8) : Bool := if x = 10 then true else if x = 58 then false else nm
def Fl : Bool → List UInt8 → List UInt8 → Prop
  | _, [], [] => True
  | nm, x :: l, y :: r => Fs nm x y ∧ Fl (nx nm x) l r
  | _, _, _ => False
theorem Fs.kp {nm : Bool} {x y : UInt8} (h : Fs nm x y) : tokB y = tokB x ∧ sm [y] = sm [x] ∧ (y = 13 ↔ x = 13) ∧ (y = 10 ↔ x = 10) ∧ (y = 58 ↔ x = 58) := by
  rcases h with rfl | ⟨_, h1, rfl⟩
  · simp
  · have := kpB_all x
    simp [kpB, h1] at this
    obtain ⟨a, b, c, d, e, f, g, i⟩ := this
    exact ⟨a, b, ⟨fun h => absurd h c, fun h => absurd h f⟩, ⟨fun h => absurd h d, fun h => absurd h g⟩, ⟨fun h => absurd h e, fun h => absurd h i⟩⟩
theorem Fs.no {x y : UInt8} (h : Fs false x y) : y = x := by
  rcases h with h | ⟨h, _⟩
  · exact h
  · cases h
theorem Fl.len : ∀ {nm : Bool} {s t : List UInt8}, Fl nm s t → t.length = s.length
  | _, [], [], _ => rfl
  | nm, x :: l, y :: r, h => by simp [Fl.len h.2]
  | _, [], _ :: _, h => h.elim
  | _, _ :: _, [], h => h.elim
theorem Fl.nil_right {nm : Bool} {s : List UInt8} (h : Fl nm s []) : s = [] := by
  have := h.len
  exact List.eq_nil_of_length_eq_zero this.symm
theorem Fl.take : ∀ {nm : Bool} {s t : List UInt8} (i : Nat), Fl nm s t → Fl nm (s.take i) (t.take i)
  | _, s, t, 0, h => by simp [Fl]
  | _, [], [], i + 1, _ => by simp [Fl]
  | nm, x :: l, y :: r, i + 1, h => ⟨h.1, Fl.take i h.2⟩
  | _, [], _ :: _, _ + 1, h => h.elim
  | _, _ :: _, [], _ + 1, h => h.elim
def stt (nm : Bool) (s : List UInt8) : Bool := s.foldl nx nm
theorem Fl.drop : ∀ {nm : Bool} {s t : List UInt8} (i : Nat), Fl nm s t → Fl (stt nm (s.take i)) (s.drop i) (t.drop i)
  | _, s, t, 0, h => by simpa [stt] using h
  | _, [], [], i + 1, _ => by simp [Fl]
  | nm, x :: l, y :: r, i + 1, h => by simpa [stt] using Fl.drop i h.2
  | _, [], _ :: _, _ + 1, h => h.elim
  | _, _ :: _, [], _ + 1, h => h.elim
theorem Fl.get : ∀ {nm : Bool} {s t : List UInt8} (i : Nat), Fl nm s t → (s[i]? = none ∧ t[i]? = none) ∨ ∃ x y n, s[i]? = some x ∧ t[i]? = some y ∧ Fs n x y
  | _, [], [], i, _ => .inl (by simp)
  | nm, x :: l, y :: r, 0, h => .inr ⟨x, y, nm, rfl, rfl, h.1⟩
  | nm, x :: l, y :: r, i + 1, h => by simpa using Fl.get i h.2
  | _, [], _ :: _, _, h => h.elim
  | _, _ :: _, [], _, h => h.elim
theorem Fl.get13 {nm : Bool} {s t : List UInt8} (h : Fl nm s t) (i : Nat) (c : UInt8) (hc : c = 13 ∨ c = 10 ∨ c = 58) : t[i]? = some c ↔ s[i]? = some c := by
  rcases h.get i with ⟨e1, e2⟩ | ⟨x, y, n, e1, e2, hf⟩
  · rw [e1, e2]
  · rw [e1, e2]
    have := hf.kp
    rcases hc with rfl | rfl | rfl
    · simpa using this.2.2.1
    · simpa using this.2.2.2.1
    · simpa using this.2.2.2.2
/-- An instance of a text of such bytes. -/
theorem occ_get (s sub : List UInt8) (i : Nat) : Lib.occAt s sub i = true ↔ ∀ j c, sub[j]? = some c → s[i + j]? = some c := by
  unfold Lib.occAt
  rw [List.isPrefixOf_iff_prefix]
  constructor
  · rintro ⟨t, ht⟩ j c hj
    have : (s.drop i)[j]? = some c := by rw [← ht, List.getElem?_append_left (List.getElem?_eq_some_iff.1 hj).1]; exact hj
    rwa [List.getElem?_drop] at this
  · intro h
    have : sub = (s.drop i).take sub.length := by
      apply List.ext_getElem?
      intro j
      by_cases hj : j < sub.length
      · have h2 := h j _ (List.getElem?_eq_getElem hj)
        rw [List.getElem?_take, if_pos hj, List.getElem?_drop, h2]
        exact List.getElem?_eq_getElem hj
      · rw [List.getElem?_eq_none (by omega), List.getElem?_eq_none (by simp; omega)]
    rw [this]
    exact List.take_prefix _ _
theorem Fl.occ {nm : Bool} {s t : List UInt8} (h : Fl nm s t) (sub : List UInt8) (hs : ∀ c ∈ sub, c = 13 ∨ c = 10 ∨ c = 58) (i : Nat) : Lib.occAt t sub i = Lib.occAt s sub i := by
  rw [Bool.eq_iff_iff, occ_get, occ_get]
  constructor
  · intro k j c hj
    exact (h.get13 _ c (hs c (List.mem_of_getElem? hj))).1 (k j c hj)
  · intro k j c hj
    exact (h.get13 _ c (hs c (List.mem_of_getElem? hj))).2 (k j c hj)
theorem index_cong (s t sub : List UInt8) (hl : t.length = s.length) (h : ∀ i, Lib.occAt t sub i = Lib.occAt s sub i) : Lib.index t sub = Lib.index s sub := by
  rcases Lib.index_spec s sub with ⟨e, k⟩ | ⟨i, e, hi, ho, hn⟩
  · rw [e]
    exact Lib.index_none (fun j hj => by rw [h]; exact k j (by omega))
  · rw [e]
    exact Lib.index_first (by omega) (by rw [h]; exact ho) (fun j hj => by rw [h]; exact hn j hj)
def c2 : List UInt8 := [13, 10]
theorem c2_in : ∀ c ∈ c2, c = 13 ∨ c = 10 ∨ c = 58 := by decide
theorem Fl.idx {nm : Bool} {s t : List UInt8} (h : Fl nm s t) : Lib.index t c2 = Lib.index s c2 := index_cong s t c2 h.len (h.occ c2 c2_in)
theorem stt_app (nm : Bool) (a b : List UInt8) : stt nm (a ++ b) = stt (stt nm a) b := by simp [stt]
/-- Behind a line's end a name begins. -/
theorem Fl.behind {nm : Bool} {s t : List UInt8} (h : Fl nm s t) (i : Nat) (ho : Lib.occAt s c2 i = true) : Fl true (s.drop (i + 2)) (t.drop (i + 2)) := by
  have h2 := h.drop (i + 2)
  have e : s[i + 1]? = some 10 := (occ_get s c2 i).1 ho 1 10 rfl
  have : stt nm (s.take (i + 2)) = true := by
    rw [show i + 2 = (i + 1) + 1 by omega, List.take_add_one, e, Option.toList_some, stt_app]
    simp [stt, nx]
  rwa [this] at h2
theorem Fl.cnt : ∀ (f : Nat) {nm : Bool} {s t : List UInt8}, Fl nm s t → Lib.countFrom c2 f t = Lib.countFrom c2 f s
  | 0, _, _, _, _ => rfl
  | f + 1, nm, s, t, h => by
    simp only [Lib.countFrom]
    rw [h.idx]
    split
    · rfl
    · rename_i hne
      rcases Lib.index_spec s c2 with ⟨e, _⟩ | ⟨i, e, hi, ho, hn⟩
      · rw [e] at hne; simp at hne
      · rw [e]
        have := Fl.cnt f (h.behind i ho)
        simp only [Int.toNat_natCast, show c2.length = 2 from rfl]
        rw [this]
/-- Lines, one for one. -/
def Rl : Bool → List (List UInt8) → List (List UInt8) → Prop
  | _, [], [] => True
  | nm, x :: X, y :: Y => Fl nm x y ∧ Rl true X Y
  | _, _, _ => False
theorem Fl.spl : ∀ (k : Nat) {nm : Bool} {s t : List UInt8}, Fl nm s t → Rl nm (Lib.splitK c2 0 k s) (Lib.splitK c2 0 k t)
  | 0, nm, s, t, h => ⟨h, trivial⟩
  | k + 1, nm, s, t, h => by
    simp only [Lib.splitK]
    rw [h.idx]
    split
    · exact ⟨h, trivial⟩
    · rename_i hne
      rcases Lib.index_spec s c2 with ⟨e, _⟩ | ⟨i, e, hi, ho, hn⟩
      · rw [e] at hne; simp at hne
      · rw [e]
        simp only [Int.toNat_natCast, show c2.length = 2 from rfl, Nat.add_zero]
        exact ⟨h.take i, Fl.spl k (h.behind i ho)⟩
theorem Fl.split {nm : Bool} {s t : List UInt8} (h : Fl nm s t) : Rl nm (Lib.split s c2) (Lib.split t c2) := by
  unfold Lib.split Lib.count
  rw [h.len, h.cnt]
  exact h.spl _
theorem Fl.bad : ∀ {nm : Bool} {s t : List UInt8}, Fl nm s t → bad t = bad s
  | _, [], [], _ => rfl
  | nm, x :: l, y :: r, h => by
    have h1 := h.1.kp
    have h2 := Fl.bad h.2
    unfold Proofs.YtonaekkenggmbaaGreatDoor.bad at h2 ⊢
    simp only [List.any_cons, h2]
    have e1 : (y == 13) = (x == 13) := by rw [Bool.eq_iff_iff]; simpa using h1.2.2.1
    have e2 : (y == 10) = (x == 10) := by rw [Bool.eq_iff_iff]; simpa using h1.2.2.2.1
    rw [e1, e2]
  | _, [], _ :: _, h => h.elim
  | _, _ :: _, [], h => h.elim
theorem Rl.bad : ∀ {nm : Bool} {X Y : List (List UInt8)}, Rl nm X Y → Y.any bad = X.any bad
  | _, [], [], _ => rfl
  | nm, x :: X, y :: Y, h => by simp only [List.any_cons, h.1.bad, Rl.bad h.2]
  | _, [], _ :: _, h => h.elim
  | _, _ :: _, [], h => h.elim
theorem bad_cons (x : UInt8) (l : List UInt8) (h : bad (x :: l) = false) : x ≠ 10 ∧ bad l = false := by
  unfold bad at h ⊢
  simp only [List.any_cons, Bool.or_eq_false_iff] at h
  exact ⟨by have := h.1.2; simpa using this, h.2⟩
/-- Outside names all is as it was. -/
theorem Fl.same : ∀ {s t : List UInt8}, Fl false s t → Proofs.YtonaekkenggmbaaGreatDoor.bad s = false → t = s
  | [], [], _, _ => rfl
  | x :: l, y :: r, h, hb => by
    obtain ⟨h1, h2⟩ := bad_cons x l hb
    have e : nx false x = false := by unfold nx; rw [if_neg h1]; split <;> rfl
    have h3 := h.2
    rw [e] at h3
    rw [h.1.no, Fl.same h3 h2]
  | [], _ :: _, h, _ => h.elim
  | _ :: _, [], h, _ => h.elim
theorem Fl.tok : ∀ {nm : Bool} {s t : List UInt8}, Fl nm s t → t.all tokB = s.all tokB
  | _, [], [], _ => rfl
  | nm, x :: l, y :: r, h => by simp only [List.all_cons, h.1.kp.1, Fl.tok h.2]
  | _, [], _ :: _, h => h.elim
  | _, _ :: _, [], h => h.elim
theorem sm_cons (x : UInt8) (l : List UInt8) : sm (x :: l) = sm [x] ++ sm l := by simp [sm]
theorem Fl.sm : ∀ {nm : Bool} {s t : List UInt8}, Fl nm s t → Proofs.YtonaekkenggmbaaGreatDoor.sm t = Proofs.YtonaekkenggmbaaGreatDoor.sm s
  | _, [], [], _ => rfl
  | nm, x :: l, y :: r, h => by rw [sm_cons y r, sm_cons x l, h.1.kp.2.1, Fl.sm h.2]
  | _, [], _ :: _, h => h.elim
  | _, _ :: _, [], h => h.elim
#print axioms Fl.split
end Go.Proofs.YtonaekkenggmbaaGreatDoor
end
section
set_option linter.unusedVariables false
set_option maxRecDepth 100000
namespace Go.Proofs.YtonaekkenggmbaaGreatDoor
open Go.RowKit

/-- From the beginning on. -/
def run0 (l : List UInt8) : Nat × Nat × St × Rq := runM RM (.head []) Rq.nil l
theorem RM_nil : (RM []).2.2 ≠ 0 := by decide +kernel
theorem step_head5 (x : List UInt8) (Q : Rq) (c : UInt8) (h : (stepM RM (.head x) Q c).1 = 0) : 4 ≤ x.length := by
  apply Classical.byContradiction
  intro hn
  simp only [stepM] at h
  split at h
  · rename_i h2
    have e : (x ++ [c]).take (x.length + 1 - 4) = [] := by rw [show x.length + 1 - 4 = 0 by omega]; rfl
    rw [e] at h
    unfold bhM at h
    simp only [if_pos RM_nil] at h
    exact RM_nil h
  · split at h <;> simp at h
theorem step_one5 (x : List UInt8) (Q : Rq) (c : UInt8) (h : (stepM RM (.head x) Q c).1 = 1) : (stepM RM (.head x) Q c).2.1 = .head (x ++ [c]) ∨ 4 ≤ x.length := by
  apply Classical.byContradiction
  intro hn
  rw [not_or] at hn
  obtain ⟨h1, h2⟩ := hn
  simp only [stepM] at h h1
  split at h
  · rename_i h3
    have e : (x ++ [c]).take (x.length + 1 - 4) = [] := by rw [show x.length + 1 - 4 = 0 by omega]; rfl
    rw [e] at h
    unfold bhM at h
    simp only [if_pos RM_nil] at h
    exact (rok_RM []).2.2 h
  · rename_i h3
    rw [if_neg h3] at h1
    split at h
    · simp at h
    · rename_i h4
      rw [if_neg h4] at h1
      exact h1 rfl
theorem run_five : ∀ (l x : List UInt8) (Q : Rq), (runM RM (.head x) Q l).2.1 = 0 → x.length < 5 → 5 ≤ (runM RM (.head x) Q l).1 + x.length
  | [], x, Q, h, _ => by simp [runM] at h
  | c :: l, x, Q, h, hx => by
    by_cases h1 : (stepM RM (.head x) Q c).1 = 1
    · rw [runM_one RM _ Q c l h1] at h ⊢
      rcases step_one5 x Q c h1 with e | e
      · rw [e] at h ⊢
        simp only at h ⊢
        by_cases h4 : x.length = 4
        · omega
        · have := run_five l (x ++ [c]) _ h (by simp; omega)
          simp at this
          omega
      · simp only; omega
    · rw [runM_end RM _ Q c l h1] at h ⊢
      have := step_head5 x Q c h
      simp only; omega
theorem run0_five (l : List UInt8) (h : (run0 l).2.1 = 0) : 5 ≤ (run0 l).1 := by
  have := run_five l [] Rq.nil h (by simp)
  show 5 ≤ (runM RM (.head []) Rq.nil l).1
  simpa using this
theorem run0_le (l : List UInt8) : (run0 l).1 ≤ l.length := runM_le RM l _ _

/-- The requests, the status behind them, what waits then. -/
def tellF : Nat → List UInt8 → List Rq × Nat × List UInt8
  | 0, l => ([], 1, l)
  | f + 1, l => if (run0 l).2.1 = 0 then ((run0 l).2.2.2 :: (tellF f (l.drop (run0 l).1)).1, (tellF f (l.drop (run0 l).1)).2) else ([], (run0 l).2.1, l)
theorem tellF_eq : ∀ (f g : Nat) (l : List UInt8), l.length < f → l.length < g → tellF f l = tellF g l
  | 0, _, l, h, _ => absurd h (by omega)
  | _, 0, l, _, h => absurd h (by omega)
  | f + 1, g + 1, l, h1, h2 => by
    simp only [tellF]
    by_cases h : (run0 l).2.1 = 0
    · have h5 := run0_five l h
      have hl := run0_le l
      have := tellF_eq f g (l.drop (run0 l).1) (by rw [List.length_drop]; omega) (by rw [List.length_drop]; omega)
      rw [if_pos h, if_pos h, this]
    · rw [if_neg h, if_neg h]
def tell (l : List UInt8) : List Rq × Nat × List UInt8 := tellF (l.length + 1) l
theorem tell_no (l : List UInt8) (h : (run0 l).2.1 ≠ 0) : tell l = ([], (run0 l).2.1, l) := by
  unfold tell
  simp only [tellF]
  rw [if_neg h]
theorem tell_yes (l : List UInt8) (h : (run0 l).2.1 = 0) : tell l = ((run0 l).2.2.2 :: (tell (l.drop (run0 l).1)).1, (tell (l.drop (run0 l).1)).2) := by
  have h5 := run0_five l h
  have hl := run0_le l
  have e : tellF l.length (l.drop (run0 l).1) = tell (l.drop (run0 l).1) := tellF_eq _ _ _ (by rw [List.length_drop]; omega) (by omega)
  conv => lhs; unfold tell
  simp only [tellF]
  rw [if_pos h, e]
theorem tell_ind (P : List UInt8 → Prop) (h0 : ∀ l, (run0 l).2.1 ≠ 0 → P l) (h1 : ∀ l, (run0 l).2.1 = 0 → P (l.drop (run0 l).1) → P l) : ∀ l, P l := by
  have key : ∀ n l, l.length < n → P l := by
    intro n
    induction n with
    | zero => intro l h; omega
    | succ n ih =>
      intro l hl
      by_cases h : (run0 l).2.1 = 0
      · have h5 := run0_five l h
        have := run0_le l
        exact h1 l h (ih _ (by rw [List.length_drop]; omega))
      · exact h0 l h
  exact fun l => key (l.length + 1) l (by omega)
theorem tell_nz : ∀ l, (tell l).2.1 ≠ 0 := by
  refine tell_ind _ (fun l h => ?_) (fun l h i => ?_)
  · rw [tell_no l h]; exact h
  · rw [tell_yes l h]; exact i
theorem tell_len : ∀ l, 5 * (tell l).1.length + (tell l).2.2.length ≤ l.length := by
  refine tell_ind _ (fun l h => ?_) (fun l h i => ?_)
  · rw [tell_no l h]; simp
  · rw [tell_yes l h]
    have h5 := run0_five l h
    have := run0_le l
    rw [List.length_drop] at i
    simp only [List.length_cons]
    omega
theorem run0_app (x y : List UInt8) (h : (run0 x).2.1 ≠ 1) : run0 (x ++ y) = run0 x := by
  have := runM_app RM x y (.head []) Rq.nil
  unfold run0 at h ⊢
  rw [this, if_neg h]
theorem tell_app (y : List UInt8) : ∀ x, (tell x).2.1 = 1 → tell (x ++ y) = ((tell x).1 ++ (tell ((tell x).2.2 ++ y)).1, (tell ((tell x).2.2 ++ y)).2) := by
  refine tell_ind _ (fun x h h1 => ?_) (fun x h i h1 => ?_)
  · rw [tell_no x h]; rfl
  · have e := run0_app x y (by rw [h]; decide)
    have hd : (x ++ y).drop (run0 x).1 = x.drop (run0 x).1 ++ y := List.drop_append_of_le_length (run0_le x)
    rw [tell_yes x h] at h1 ⊢
    rw [tell_yes (x ++ y) (by rw [e]; exact h), e, hd, i h1]
    rfl
theorem tell_ref (y : List UInt8) : ∀ x, (tell x).2.1 ≠ 1 → (tell (x ++ y)).1 = (tell x).1 ∧ (tell (x ++ y)).2.1 = (tell x).2.1 := by
  refine tell_ind _ (fun x h h1 => ?_) (fun x h i h1 => ?_)
  · rw [tell_no x h] at h1 ⊢
    have e := run0_app x y h1
    rw [tell_no (x ++ y) (by rw [e]; exact h), e]
    exact ⟨rfl, rfl⟩
  · have e := run0_app x y (by rw [h]; decide)
    have hd : (x ++ y).drop (run0 x).1 = x.drop (run0 x).1 ++ y := List.drop_append_of_le_length (run0_le x)
    rw [tell_yes x h] at h1 ⊢
    rw [tell_yes (x ++ y) (by rw [e]; exact h), e, hd]
    obtain ⟨i1, i2⟩ := i h1
    exact ⟨by rw [i1], i2⟩
/-- What waits asks for more. -/
theorem tell_rest : ∀ x, (tell x).2.1 = 1 → (run0 (tell x).2.2).2.1 = 1 := by
  refine tell_ind _ (fun x h h1 => ?_) (fun x h i h1 => ?_)
  · rw [tell_no x h] at h1 ⊢; exact h1
  · rw [tell_yes x h] at h1 ⊢; exact i h1
#print axioms tell_ref
end Go.Proofs.YtonaekkenggmbaaGreatDoor
end
section
set_option linter.unusedVariables false
set_option maxRecDepth 100000
namespace Go.Proofs.YtonaekkenggmbaaGreatDoor
open Go.RowKit

theorem bad_drop (l : List UInt8) (i : Nat) (h : bad l = false) : bad (l.drop i) = false := by
  unfold bad at h ⊢
  rw [List.any_eq_false] at h ⊢
  exact fun c hc => h c (List.mem_of_mem_drop hc)
theorem Fl.fld {x y : List UInt8} (h : Fl true x y) (hb : Proofs.YtonaekkenggmbaaGreatDoor.bad x = false) : fldM y = fldM x := by
  have hi : Lib.index y [58] = Lib.index x [58] := index_cong x y [58] h.len (h.occ [58] (by simp))
  rcases Lib.index_spec x [58] with ⟨e, _⟩ | ⟨i, e, hil, ho, hn⟩
  · rw [e] at hi
    simp [fldM, Lib.cut, e, hi]
  · rw [e] at hi
    have h58 : x[i]? = some 58 := (occ_get x [58] i).1 ho 0 58 rfl
    have hv : y.drop (i + 1) = x.drop (i + 1) := by
      have h2 := h.drop (i + 1)
      have : stt true (x.take (i + 1)) = false := by
        rw [List.take_add_one, h58, Option.toList_some, stt_app]
        simp [stt, nx]
      rw [this] at h2
      exact h2.same (bad_drop x _ hb)
    have ht := h.take i
    have hk : tknB (y.take i) = tknB (x.take i) := by
      unfold tknB
      rw [ht.len, ht.tok]
    simp only [fldM, Lib.cut, e, hi, Int.natCast_nonneg, if_true, Int.toNat_natCast, List.length_cons, List.length_nil, Nat.zero_add, hv, hk, ht.sm]
theorem Rl.rh : ∀ {X Y : List (List UInt8)} (acc : List Hd), Rl true X Y → X.any Proofs.YtonaekkenggmbaaGreatDoor.bad = false → rhM Y acc = rhM X acc
  | [], [], acc, _, _ => rfl
  | x :: X, y :: Y, acc, h, hb => by
    simp only [List.any_cons, Bool.or_eq_false_iff] at hb
    have ih := fun acc => Rl.rh acc h.2 hb.2
    simp only [rhM, h.1.fld hb.1, ih]
  | [], _ :: _, _, h, _ => h.elim
  | _ :: _, [], _, h, _ => h.elim
theorem Fl.rm {s t : List UInt8} (h : Fl false s t) : RM t = RM s := by
  have hr := h.split
  have hb := hr.bad
  by_cases hx : (Lib.split s c2).any Proofs.YtonaekkenggmbaaGreatDoor.bad = true
  · have hy : (Lib.split t c2).any Proofs.YtonaekkenggmbaaGreatDoor.bad = true := by rw [hb]; exact hx
    unfold c2 at hx hy
    simp only [RM, hx, hy, if_true]
  · have hx' : (Lib.split s c2).any Proofs.YtonaekkenggmbaaGreatDoor.bad = false := by simpa using hx
    have e1 : (Lib.split t c2).getD 0 [] = (Lib.split s c2).getD 0 [] ∧ rhM ((Lib.split t c2).drop 1) [] = rhM ((Lib.split s c2).drop 1) [] := by
      generalize Lib.split s c2 = X at hr hx'
      generalize Lib.split t c2 = Y at hr
      match X, Y, hr, hx' with
      | [], [], _, _ => exact ⟨rfl, rfl⟩
      | x :: X, y :: Y, h, hx' =>
        simp only [List.any_cons, Bool.or_eq_false_iff] at hx'
        exact ⟨by simpa using h.1.same hx'.1, h.2.rh [] hx'.2⟩
      | [], _ :: _, h, _ => exact h.elim
      | _ :: _, [], h, _ => exact h.elim
    unfold c2 at hb hx' e1
    simp only [RM, hb, hx', e1.1, e1.2]

theorem suf_occ (l : List UInt8) (k : Nat) (hk : k < l.length) : hend <:+ l.take (k + 1) ↔ 3 ≤ k ∧ Lib.occAt l hend (k - 3) = true := by
  constructor
  · rintro ⟨t, ht⟩
    have hl := congrArg List.length ht
    simp [hend] at hl
    refine ⟨by omega, ?_⟩
    rw [occ_get]
    intro j c hj
    have hj4 : j < 4 := by have := (List.getElem?_eq_some_iff.1 hj).1; simpa [hend] using this
    have h2 : (l.take (k + 1))[t.length + j]? = some c := by rw [← ht, List.getElem?_append_right (by omega), Nat.add_sub_cancel_left]; exact hj
    rw [List.getElem?_take] at h2
    split at h2
    · rw [show k - 3 + j = t.length + j by omega]; exact h2
    · cases h2
  · rintro ⟨h3, ho⟩
    rw [occ_get] at ho
    refine ⟨l.take (k - 3), ?_⟩
    apply List.ext_getElem?
    intro j
    by_cases hj : j < k - 3
    · rw [List.getElem?_append_left (by simp; omega), List.getElem?_take, List.getElem?_take, if_pos hj, if_pos (by omega)]
    · have hlt : (l.take (k - 3)).length = k - 3 := by simp; omega
      rw [List.getElem?_append_right (by omega), hlt, List.getElem?_take]
      by_cases hj2 : j < k + 1
      · rw [if_pos hj2]
        obtain ⟨c, hc⟩ : ∃ c, hend[j - (k - 3)]? = some c := ⟨_, List.getElem?_eq_getElem (by simp [hend]; omega)⟩
        have := ho _ _ hc
        rw [show k - 3 + (j - (k - 3)) = j by omega] at this
        rw [hc, this]
      · rw [if_neg hj2, List.getElem?_eq_none (by simp [hend]; omega)]
/-- What a head leads to: its text, what stands behind it. -/
def hdR (Q : Rq) (l : List UInt8) (e : Nat) : Nat × Nat × St × Rq :=
  if (bhM RM Q (l.take e)).1 = 1 then ((runM RM (bhM RM Q (l.take e)).2.1 (bhM RM Q (l.take e)).2.2 (l.drop (e + 4))).1 + (e + 4), (runM RM (bhM RM Q (l.take e)).2.1 (bhM RM Q (l.take e)).2.2 (l.drop (e + 4))).2) else (e + 4, bhM RM Q (l.take e))
theorem head_short (Q : Rq) (l : List UInt8) (e : Nat) (ho : Lib.occAt l hend e = true) (hn : ∀ j, j < e → Lib.occAt l hend j = false) (he : e + 4 ≤ 8196) : ∀ (m k : Nat), m + k = e + 3 → runM RM (.head (l.take k)) Q (l.drop k) = ((hdR Q l e).1 - k, (hdR Q l e).2) := by
  have hl : e + 4 ≤ l.length := by
    rcases Lib.occAt_room ho with h | h
    · simpa [hend] using h
    · simp [hend] at h
  intro m
  induction m with
  | zero =>
    intro k hk
    have hkl : k < l.length := by omega
    have hd : l.drop k = l[k] :: l.drop (k + 1) := List.drop_eq_getElem_cons hkl
    have ht : l.take k ++ [l[k]] = l.take (k + 1) := by rw [List.take_add_one, List.getElem?_eq_getElem hkl]; rfl
    have hs : hend <:+ l.take k ++ [l[k]] := by rw [ht, suf_occ l k hkl]; exact ⟨by omega, by rw [show k - 3 = e by omega]; exact ho⟩
    have htl : (l.take k).length = k := by simp; omega
    have hstep : stepM RM (.head (l.take k)) Q l[k] = bhM RM Q (l.take e) := by
      simp only [stepM]
      rw [if_pos hs, ht, htl, List.take_take, show min (k + 1 - 4) (k + 1) = e by omega]
    rw [hd]
    unfold hdR
    by_cases h1 : (bhM RM Q (l.take e)).1 = 1
    · rw [runM_one RM _ Q _ _ (by rw [hstep]; exact h1), hstep, if_pos h1]
      simp only [show k + 1 = e + 4 by omega]
      congr 1
      omega
    · rw [runM_end RM _ Q _ _ (by rw [hstep]; exact h1), hstep, if_neg h1]
      simp only
      congr 1
      omega
  | succ m ih =>
    intro k hk
    have hkl : k < l.length := by omega
    have hd : l.drop k = l[k] :: l.drop (k + 1) := List.drop_eq_getElem_cons hkl
    have ht : l.take k ++ [l[k]] = l.take (k + 1) := by rw [List.take_add_one, List.getElem?_eq_getElem hkl]; rfl
    have hs : ¬ hend <:+ l.take k ++ [l[k]] := by
      rw [ht, suf_occ l k hkl]
      rintro ⟨h3, h4⟩
      rw [hn (k - 3) (by omega)] at h4
      cases h4
    have htl : (l.take k).length = k := by simp; omega
    have hstep : stepM RM (.head (l.take k)) Q l[k] = (1, .head (l.take (k + 1)), Q) := by
      simp only [stepM]
      rw [if_neg hs, htl, if_neg (by omega), ht]
    have hb : k + 1 ≤ (hdR Q l e).1 := by
      unfold hdR
      split
      · simp only; omega
      · simp only; omega
    rw [hd, runM_one RM _ Q _ _ (by rw [hstep]), hstep]
    simp only
    rw [ih (k + 1) (by omega)]
    simp only
    congr 1
    omega
theorem head_long (Q : Rq) (l : List UInt8) (e : Nat) (hn : ∀ j, j < e → Lib.occAt l hend j = false) (hl : 8196 ≤ l.length) (he : 8196 < e + 4) : ∀ (m k : Nat), m + k = 8195 → (runM RM (.head (l.take k)) Q (l.drop k)).2.1 = 431 := by
  intro m
  induction m with
  | zero =>
    intro k hk
    have hkl : k < l.length := by omega
    have hd : l.drop k = l[k] :: l.drop (k + 1) := List.drop_eq_getElem_cons hkl
    have ht : l.take k ++ [l[k]] = l.take (k + 1) := by rw [List.take_add_one, List.getElem?_eq_getElem hkl]; rfl
    have hs : ¬ hend <:+ l.take k ++ [l[k]] := by
      rw [ht, suf_occ l k hkl]
      rintro ⟨h3, h4⟩
      rw [hn (k - 3) (by omega)] at h4
      cases h4
    have htl : (l.take k).length = k := by simp; omega
    have hstep : stepM RM (.head (l.take k)) Q l[k] = (431, .head (l.take k), Q) := by
      simp only [stepM]
      rw [if_neg hs, htl, if_pos (by omega)]
    rw [hd, runM_end RM _ Q _ _ (by rw [hstep]; simp), hstep]
  | succ m ih =>
    intro k hk
    have hkl : k < l.length := by omega
    have hd : l.drop k = l[k] :: l.drop (k + 1) := List.drop_eq_getElem_cons hkl
    have ht : l.take k ++ [l[k]] = l.take (k + 1) := by rw [List.take_add_one, List.getElem?_eq_getElem hkl]; rfl
    have hs : ¬ hend <:+ l.take k ++ [l[k]] := by
      rw [ht, suf_occ l k hkl]
      rintro ⟨h3, h4⟩
      rw [hn (k - 3) (by omega)] at h4
      cases h4
    have htl : (l.take k).length = k := by simp; omega
    have hstep : stepM RM (.head (l.take k)) Q l[k] = (1, .head (l.take (k + 1)), Q) := by
      simp only [stepM]
      rw [if_neg hs, htl, if_neg (by omega), ht]
    rw [hd, runM_one RM _ Q _ _ (by rw [hstep]), hstep]
    exact ih (k + 1) (by omega)
theorem pM_run (b c : List UInt8) (h : (run0 c).2.1 = (run0 b).2.1 ∧ ((run0 b).2.1 = 0 → (run0 c).1 = (run0 b).1 ∧ (run0 c).2.2.2 = (run0 b).2.2.2)) : pM c = pM b := by
  unfold pM parseM
  have h1 : (runM RM (.head []) Rq.nil c).2.1 = (runM RM (.head []) Rq.nil b).2.1 := h.1
  by_cases h0 : (runM RM (.head []) Rq.nil b).2.1 = 0
  · have h2 : (runM RM (.head []) Rq.nil c).1 = (runM RM (.head []) Rq.nil b).1 := (h.2 h0).1
    have h3 : (runM RM (.head []) Rq.nil c).2.2.2 = (runM RM (.head []) Rq.nil b).2.2.2 := (h.2 h0).2
    simp only [h1, h2, h3]
  · simp only [if_neg h0, h1]
/-- P8.11: the names' letters up to the head's end. -/
theorem pM_case (b c : List UInt8) (e : Nat) (he : Lib.index b hend = (e : Int)) (hf : Fl false (b.take e) (c.take e)) (hd : c.drop e = b.drop e) : pM c = pM b := by
  obtain ⟨ho, hn, hel⟩ : Lib.occAt b hend e = true ∧ (∀ j, j < e → Lib.occAt b hend j = false) ∧ e ≤ b.length := by
    rcases Lib.index_spec b hend with ⟨h1, _⟩ | ⟨i, h1, h2, h3, h4⟩
    · rw [he] at h1; omega
    · rw [he] at h1
      obtain rfl : e = i := by omega
      exact ⟨h3, h4, h2⟩
  have hroom : e + 4 ≤ b.length := by
    rcases Lib.occAt_room ho with h | h
    · simpa [hend] using h
    · simp [hend] at h
  have hlc : c.length = b.length := by
    have h1 := hf.len
    have h2 := congrArg List.length hd
    simp at h1 h2
    omega
  have hget : ∀ (i : Nat) (v : UInt8), v = 13 ∨ v = 10 ∨ v = 58 → (c[i]? = some v ↔ b[i]? = some v) := fun i v hv => by
    by_cases hi : i < e
    · have := hf.get13 i v hv
      rw [List.getElem?_take, List.getElem?_take, if_pos hi, if_pos hi] at this
      exact this
    · have h1 : (c.drop e)[i - e]? = (b.drop e)[i - e]? := by rw [hd]
      rw [List.getElem?_drop, List.getElem?_drop, show e + (i - e) = i by omega] at h1
      rw [h1]
  have hocc : ∀ i, Lib.occAt c hend i = Lib.occAt b hend i := fun i => by
    have hin : ∀ v ∈ hend, v = 13 ∨ v = 10 ∨ v = 58 := by decide
    rw [Bool.eq_iff_iff, occ_get, occ_get]
    constructor
    · intro k j v hj
      exact (hget _ v (hin v (List.mem_of_getElem? hj))).1 (k j v hj)
    · intro k j v hj
      exact (hget _ v (hin v (List.mem_of_getElem? hj))).2 (k j v hj)
  have ho' : Lib.occAt c hend e = true := by rw [hocc]; exact ho
  have hn' : ∀ j, j < e → Lib.occAt c hend j = false := fun j hj => by rw [hocc]; exact hn j hj
  refine pM_run b c ?_
  by_cases h4 : e + 4 ≤ 8196
  · have r1 := head_short Rq.nil b e ho hn h4 (e + 3) 0 (by omega)
    have r2 := head_short Rq.nil c e ho' hn' h4 (e + 3) 0 (by omega)
    simp only [List.take_zero, List.drop_zero, Nat.sub_zero] at r1 r2
    have hbh : bhM RM Rq.nil (c.take e) = bhM RM Rq.nil (b.take e) ∨ (bhM RM Rq.nil (c.take e)).1 = (bhM RM Rq.nil (b.take e)).1 ∧ (bhM RM Rq.nil (b.take e)).1 ≠ 0 ∧ (bhM RM Rq.nil (b.take e)).1 ≠ 1 ∨ ((bhM RM Rq.nil (c.take e)).1 = 0 ∧ (bhM RM Rq.nil (b.take e)).1 = 0 ∧ (bhM RM Rq.nil (c.take e)).2.2 = (bhM RM Rq.nil (b.take e)).2.2) := by
      unfold bhM
      rw [hf.rm]
      simp only
      split
      · rename_i h; exact .inr (.inl ⟨rfl, h, (rok_RM _).2.2⟩)
      · split
        · exact .inl rfl
        · split
          · exact .inr (.inr ⟨rfl, rfl, rfl⟩)
          · exact .inl rfl
    have hdd : c.drop (e + 4) = b.drop (e + 4) := by rw [← List.drop_drop, ← List.drop_drop, hd]
    unfold run0
    rcases hbh with h | ⟨h, h0, h1⟩ | ⟨h, h0, h1⟩
    · have : hdR Rq.nil c e = hdR Rq.nil b e := by unfold hdR; rw [h, hdd]
      rw [r1, r2, this]
      exact ⟨rfl, fun _ => ⟨rfl, rfl⟩⟩
    · have e1 : hdR Rq.nil b e = (e + 4, bhM RM Rq.nil (b.take e)) := by unfold hdR; rw [if_neg h1]
      have e2 : hdR Rq.nil c e = (e + 4, bhM RM Rq.nil (c.take e)) := by unfold hdR; rw [if_neg (by rw [h]; exact h1)]
      rw [r1, r2, e1, e2]
      exact ⟨h, fun hz => absurd hz h0⟩
    · have e1 : hdR Rq.nil b e = (e + 4, bhM RM Rq.nil (b.take e)) := by unfold hdR; rw [if_neg (by rw [h0]; decide)]
      have e2 : hdR Rq.nil c e = (e + 4, bhM RM Rq.nil (c.take e)) := by unfold hdR; rw [if_neg (by rw [h]; decide)]
      rw [r1, r2, e1, e2]
      exact ⟨h.trans h0.symm, fun _ => ⟨rfl, h1⟩⟩
  · have hbl : 8196 ≤ b.length := by omega
    have r1 := head_long Rq.nil b e hn hbl (by omega) 8195 0 (by omega)
    have r2 := head_long Rq.nil c e hn' (by omega) (by omega) 8195 0 (by omega)
    simp only [List.take_zero, List.drop_zero] at r1 r2
    unfold run0
    rw [r1, r2]
    exact ⟨rfl, fun h => by cases h⟩
#print axioms pM_case
end Go.Proofs.YtonaekkenggmbaaGreatDoor
end
