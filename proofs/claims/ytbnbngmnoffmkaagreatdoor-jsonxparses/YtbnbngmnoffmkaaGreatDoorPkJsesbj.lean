/-
  jsonx: the document's machine: done.; jsonx: the document's machine: the last open one is taken off.
-/
import Derived.Test.YtbnbngmnoffmkaaGreatDoorPkJsesbi
import Derived.Test.YtbnbngmnoffmkaaGreatDoorPkJsesat
import Derived.Test.YtbnbngmnoffmkaaGreatDoorPkJsesaw
import Derived.Deep.RegionHeld3
import Derived.Deep.CutRange
import Derived.Deep.DeepCutAuto
import Derived.BigQuiet
section
set_option linter.unusedVariables false
set_option maxRecDepth 1000000
namespace Go.Proofs.YtbnbngmnoffmkaaGreatDoor
open Go.RowKit

/-- append(names, name), as a step of a region that draws its order. -/
theorem stp_appT (w : World) {ops : Array Oper} {o : Oper} {a : Act} {K : Act → World → Prop} {Q : Exit → Act → World → Prop} {E : Prop} (hgd : o.guard = none) (s x : Operand)
  (ho : o.op = .call { callee := .builtin .append, args := #[s, x], argTypes := #[22, 22] })
  (base : Nat) (a1 : Option Addr) (cap1 : Nat) (l : List (List UInt8)) (n : Nat) (hn : n = l.length) (hs : a.eval s = .slice a1 n cap1) (hown : OwnT w base a1 cap1 l)
  (B c2 : Nat) (nm : List UInt8) (hx : a.eval x = .slice (some ⟨B, 0, none⟩) 1 c2) (hsrc : w.heap[B]? = some (.cells #[.string (str nm)] 9 (0, 0))) (hlen : l.length ≤ 1000000) (hb : base ≤ w.heap.size)
  (h : ∀ g cap w', Hid (OwnT w' base (some ⟨g, 0, none⟩) cap (l ++ [nm])) → Hid (w.grownBy w' (blk a1)) → Hid (blk a1 = some g ∨ g = w.heap.size) → Hid (g < w'.heap.size) → K (a.put o.dst (.slice (some ⟨g, 0, none⟩) (n + 1) cap)) w') :
  if Region.wanted o (yielded ops a.tmps) = true then Oper.wp Tryz.prog o a w K Q else E := by
 subst hn
 obtain ⟨i, hi, hz0, hz1, hz2⟩ := info_parts Tryz.infoT4
 refine step_append_lies w hgd s x 22 ho base 9 i _ 1 16 Tryz.underlying22 hi hz0 hz1 hz2 rfl (by decide) _ _ _ hs hown ⟨B, 0, none⟩ 1 c2 [.string (str nm)] hx rfl ?_ (by simp [Value.oneCell']) (by decide) (by unfold maxLen; omega) (by omega) hb _ rfl ?_
 ·intro j u hu
  rw [addr_add, Nat.zero_add, cell_of_row w B j _ _ _ hsrc]
  simpa using hu
 ·intro g cap w' h1 h2 h3 h4
  have hblk : (Value.slice a1 l.length cap1).ownBlock = blk a1 := by cases a1 <;> rfl
  rw [hblk] at h2 h3
  refine h g cap w' ?_ h2 h3 h4
  show w'.ownsRow _ _ _ _ _ _
  rw [show nsv (l ++ [nm]) = nsv l ++ [.string (str nm)] by simp [nsv], List.length_append]
  exact h1
/-- Behind a part of done. -/
def DnR (w : World) (g : Nat → Nat) (P base : Nat) (m : Mc) (la : Option Addr) (lc : Nat) (vk vn : Int) (vt : List UInt8) (va1 : Option Addr) (vn1 vc1 : Nat) (va2 : Option Addr) (vn2 vc2 : Nat) (ta : Option Addr) (tc : Nat) (ca : Option Addr) (cc : Nat) (wx : World) : Prop := ∃ g' fs', MS wx g' P base m la lc vk vn vt va1 vn1 vc1 va2 vn2 vc2 ta tc ca cc fs' ∧ Kq w wx g g' (· = 5)
/-- What done owes. -/
def DnC (base N : Nat) : Prop := ∀ (j : Js) (yk yn : Int) (yt : List UInt8) (ya1 : Option Addr) (yn1 yc1 : Nat) (ya2 : Option Addr) (yn2 yc2 : Nat) (w : World) (g : Nat → Nat) (P : Nat) (m : Mc), Mb w g P base m → JV w (Zt g w) (.agg #[.int .i64 yk, .int .i64 yn, .string (str yt), .slice ya1 yn1 yc1, .slice ya2 yn2 yc2]) j → base ≤ w.heap.size → (∀ o ∈ m.l, o.ns.length ≤ N ∧ o.is.length ≤ N) → m.l.length ≤ 16 →
 Calls Tryz.prog 44 #[.pointer (some ⟨P, 0, none⟩), (.agg #[.int .i64 yk, .int .i64 yn, .string (str yt), .slice ya1 yn1 yc1, .slice ya2 yn2 yc2])] w fun e w' => Mq w g P base (doneM m j) e w'
set_option maxHeartbeats 16000000 in
theorem rdone_any (base N : Nat) (hN : N ≤ 1000000) : DnC base N := by
 intro j yk yn yt ya1 yn1 yc1 ya2 yn2 yc2 w g P m hmb hv hbs hos hl16
 obtain ⟨la, lc, vk, vn, vt, va1, vn1, vc1, va2, vn2, vc2, ta, tc, ca, cc, fs, h⟩ := hmb
 obtain ⟨V, hV⟩ : ∃ V, V = w.heap.size := ⟨_, rfl⟩
 obtain ⟨U, hU⟩ : ∃ U, U = w.alloc (.cells #[.int .i64 yk, .int .i64 yn, .string (str yt), .slice ya1 yn1 yc1, .slice ya2 yn2 yc2] 25) := ⟨_, rfl⟩
 have bU : Below w.heap.size w U := by rw [hU]; exact (Below.refl _ _).alloc (Nat.le_refl _) _
 have rV : U.heap[V]? = some (.cells #[.int .i64 yk, .int .i64 yn, .string (str yt), .slice ya1 yn1 yc1, .slice ya2 yn2 yc2] 25 (0, 0)) := by rw [hU, hV]; exact heap_alloc_new _ _
 have hUm := h.below bU
 have hPV : V ≠ P := by have := h.lt; omega
 obtain ⟨w1, hw1⟩ : ∃ w1, w1 = U.setCell ⟨P, 0, none⟩ (.int .i64 5) := ⟨_, rfl⟩
 have mv1 : Mv U w1 P := by rw [hw1]; exact Mv.set _ _ _ _
 have h1 := hUm.mv (m' := { m with st := 5 }) mv1 rfl rfl rfl rfl (by rw [hw1]; exact heap_setCell_same _ _ _ _ _ _ hUm.row)
 have rV1 : w1.heap[V]? = some (.cells #[.int .i64 yk, .int .i64 yn, .string (str yt), .slice ya1 yn1 yc1, .slice ya2 yn2 yc2] 25 (0, 0)) := (mv1.block V (Array.getElem?_eq_some_iff.1 rV).1 (fun e => hPV (Option.some.inj e))).trans rV
 have K1 : Hid (Kq w w1 g g (· ≠ 1)) := (Kq.ofB bU).trans (Kq.ofMv mv1 h.tP)
 have hv1 := jv_kq (unhide K1) (by omega) hv
 obtain ⟨hcU, hfU⟩ := hUm.cells
 have c0 := hcU 0 _ rfl
 have f0 := hfU 0
 obtain ⟨hc1, hf1⟩ := h1.cells
 have d1 := hc1 1 _ rfl
 dsimp only at d1
 obtain ⟨p0, p1, p2, p3, p4⟩ := cells5 rV1
 have HRV1 := hide rV1
 have HV1 := hide hv1
 have H1 := hide h1
 have HPV := hide hPV
 have HBS : Hid (base ≤ w1.heap.size) := Nat.le_trans hbs (Nat.le_trans bU.size mv1.size)
 obtain ⟨R, hR⟩ : ∃ R, R = doneM m j := ⟨_, rfl⟩
 rw [← hR]
 unfold doneM at hR
 have HR := hide hR
 have HOS := hide hos
 by_cases hl : m.l = []
 ·have HE : Hid (R = { m with st := 5, v := j }) := by show _ = _; rw [unhide HR, if_pos hl]
  have hz : m.l.length = 0 := by rw [hl]; rfl
  rw [hz] at d1
  have e3 := hc1 3 _ rfl
  have e4 := hc1 4 _ rfl
  have e5 := hc1 5 _ rfl
  have e6 := hc1 6 _ rfl
  have e7 := hc1 7 _ rfl
  have f3 := hf1 3
  have f4 := hf1 4
  have f5 := hf1 5
  have f6 := hf1 6
  have f7 := hf1 7
  have HF : Hid (∀ w', w' = ((((w1.setCell ⟨P, 3, none⟩ (.int .i64 yk)).setCell ⟨P, 4, none⟩ (.int .i64 yn)).setCell ⟨P, 5, none⟩ (.string (str yt))).setCell ⟨P, 6, none⟩ (.slice ya1 yn1 yc1)).setCell ⟨P, 7, none⟩ (.slice ya2 yn2 yc2) → Mq w g P base R (.returned (.tuple #[])) w') := fun w' e => by
   have mv : Mv w1 w' P := by rw [e]; exact ((((Mv.set _ _ _ _).trans (Mv.set _ _ _ _)).trans (Mv.set _ _ _ _)).trans (Mv.set _ _ _ _)).trans (Mv.set _ _ _ _)
   have h1 := unhide H1
   have K := Kq.ofMv mv h1.tP
   have := h1.re (w' := w') (g' := g) (m' := { m with st := 5, v := j }) (K.mono (fun t ht => ht.1)) rfl (by rw [e]; exact heap_setCell_same _ _ _ _ _ _ (heap_setCell_same _ _ _ _ _ _ (heap_setCell_same _ _ _ _ _ _ (heap_setCell_same _ _ _ _ _ _ (heap_setCell_same _ _ _ _ _ _ h1.row)))))
    (jv_kq K (by omega) (unhide HV1)) (owns_same h1.tx (fun k hk => (K.tag k (owns_lt h1.tx k hk).2 (by rw [h1.tt k hk]; omega)).2)) (owns_same h1.ch (fun k hk => (K.tag k (owns_lt h1.ch k hk).2 (by rw [h1.th k hk]; omega)).2)) h1.tP h1.tt h1.th
   rw [unhide HE]
   exact ⟨g, rfl, this.mb, ((unhide K1).trans K).mono (fun t ht => by omega)⟩
  clear hl hz hR HR HE h hv hbs hos hl16 bU rV hUm hPV mv1 h1 rV1 hv1 hcU hfU hc1 hf1 HRV1 HV1 H1 HPV HBS HOS K1
  go_enter Tryz.func44, Tryz.ntmps44
  go_upto_region 1 with fail
  rw [← hU, ← hV]
  clear hU hV
  go_upto_region 2 with fail
  rw [← hw1]
  clear hw1 c0 f0
  go_wp2_with fail
  go_end0
  exact unhide HF _ rfl
 ·obtain ⟨l0, o, hlo⟩ : ∃ l0 o, m.l = l0 ++ [o] := ⟨m.l.dropLast, m.l.getLast hl, (List.dropLast_concat_getLast hl).symm⟩
  obtain ⟨T, hT⟩ : ∃ T, T = m.l.length := ⟨_, rfl⟩
  obtain ⟨i, hi⟩ : ∃ i, i = l0.length := ⟨_, rfl⟩
  have hTi : T = i + 1 := by rw [hT, hlo, hi]; simp
  have HE : Hid (R = { m with st := 5, l := l0 ++ [addV j o] }) := by show _ = _; rw [unhide HR, if_neg hl, hlo, upd_last]
  obtain ⟨L, rfl⟩ : ∃ L, la = some ⟨L, 0, none⟩ := by
   rcases owns_cases h.lo with ⟨_, _, h3, _⟩ | ⟨gg, _, h3, _⟩
   ·have : T = 0 := by rw [hT]; exact h3
    omega
   ·exact ⟨gg, h3⟩
  obtain ⟨hoN, hoI⟩ := hos o (by rw [hlo]; simp)
  obtain ⟨a1, e1, a2, e2, xs, q0, q1, q2, q3, q4, q5, hT0, hJ0, t1, t2, hE0⟩ := h.el i o (by rw [hlo, hi]; simp)
  dsimp only at q0 q1 q2 q3 q4 q5
  have HLT : Hid ((∀ k, blk a2 = some k → k < V) ∧ (∀ k, blk a1 = some k → k < V) ∧ L < V ∧ (∀ k, blk a2 = some k → k ≠ L) ∧ (∀ k, blk a1 = some k → k ≠ L)) := ⟨fun k hk => by rw [hV]; exact (owns_lt hJ0 k hk).2, fun k hk => by rw [hV]; exact (owns_lt hT0 k hk).2, by rw [hV]; exact (owns_lt h.lo L rfl).2, fun k hk e => by have := t2 k hk; have := h.tl L rfl; rw [e] at *; omega, fun k hk e => by have := t1 k hk; have := h.tl L rfl; rw [e] at *; omega⟩
  have HJ0 := hide hJ0
  have HT0 := hide hT0
  have HE0 := hide hE0
  have HFL : Hid (fs.length = T * 6) := by show _ = _; rw [hT]; exact h.lo.1
  have HBWY : Hid (∀ u, Below w1.heap.size w1 u → Kq w u g g (· ≠ 1)) := fun u hu => (unhide K1).trans (Kq.ofB hu)
  rw [← hT] at d1
  have z1 : ((T : Int) == 0) = false := by simp; omega
  have z2 : IntKind.i64.wrap ((T : Int) - 1) = (i : Int) := by simp [IntKind.wrap, IntKind.bits, IntKind.signed]; omega
  have z3 : (T : Int) - 1 = (i : Int) := by omega
  have hi16 : i ≤ 16 := by omega
  have z4 : IntKind.i64.wrap (i : Int) = (i : Int) := by simp [IntKind.wrap, IntKind.bits, IntKind.signed]; omega
  have hiT : (i : Int) < (T : Int) := by omega
  have hi0 : (0 : Int) ≤ (i : Int) := by omega
  have HLO := hide hlo
  have HT := hide hT
  have HI := hide hi
  have HON := hide hoN
  have HOI := hide hoI
  have HTI := hide hTi
  clear hl hR HR h hv hbs hos hl16 hT0 hJ0 hE0 bU rV hUm hPV mv1 h1 rV1 hv1 hcU hfU hc1 hf1 HOS hlo hT hi hoN hoI hTi p0 p1 p2 p3 p4
  go_enter Tryz.func44, Tryz.ntmps44
  go_upto_region 1 with fail
  rw [← hU, ← hV]
  clear hU hV
  go_upto_region 2 with fail
  rw [← hw1]
  clear hw1 c0 f0
  go_upto_region 4 with fail
  go_quiet (fail)
  go_upto_region 5 with fail
  generalize hy : w1.drewN nq = y
  have bY : Below w1.heap.size w1 y := by rw [← hy]; exact bdr4 (Below.refl _ _) nq
  clear hy d1 z1 z2 z3 z4
  have h1y := (unhide H1).below bY
  have kY := unhide HBWY y bY
  have hJy : OwnJ y base a2 e2 o.is.length xs := owns_same (unhide HJ0) (fun k hk => (kY.tag k (owns_lt (unhide HJ0) k hk).2 (by rw [t2 k hk]; omega)).2)
  have hTy : OwnT y base a1 e1 o.ns := owns_same (unhide HT0) (fun k hk => (kY.tag k (owns_lt (unhide HT0) k hk).2 (by rw [t1 k hk]; omega)).2)
  have hEy : ∀ q x, o.is[q]? = some x → ∃ v, At5 xs q v ∧ JV y (Zt g y) v x := fun q x hx => by
   obtain ⟨v, k1, k2⟩ := unhide HE0 q x hx
   exact ⟨v, k1, jv_kq kY (by omega) k2⟩
  have hvy := jv_kq (Kq.ofB bY (T := fun t => t ≠ 1)) (by omega) (unhide HV1)
  have rVy : y.heap[V]? = some (.cells #[.int .i64 yk, .int .i64 yn, .string (str yt), .slice ya1 yn1 yc1, .slice ya2 yn2 yc2] 25 (0, 0)) := (bY.block V (Array.getElem?_eq_some_iff.1 (unhide HRV1)).1).trans (unhide HRV1)
  have hVy := (Array.getElem?_eq_some_iff.1 rVy).1
  have loy := h1y.lo
  obtain ⟨n, hn⟩ : ∃ n, n = o.is.length := ⟨_, rfl⟩
  have HNN := hide hn
  rw [← hn] at hJy
  have HLOy := hide loy
  have HJy := hide hJy
  have HTy := hide hTy
  have HEy := hide hEy
  have Hvy := hide hvy
  have HRVy := hide rVy
  have H1y := hide h1y
  have HVy := hide hVy
  have HKY := hide kY
  have HBSy : Hid (base ≤ y.heap.size) := Nat.le_trans (unhide HBS) bY.size
  have hnB : n ≤ 1000000 := by have := unhide HOI; omega
  have HQ := hide (And.intro q0 (And.intro q1 (And.intro q2 (And.intro q3 (And.intro q4 q5)))))
  have HT1 := hide t1
  have HT2 := hide t2
  clear h1y kY hJy hTy hEy hvy rVy hVy loy hn q0 q1 q2 q3 q4 q5 t1 t2
  go_cut [] from 29 to 41 (fun wx => DnR y g P base { m with st := 5, l := l0 ++ [{ o with is := o.is ++ [j] }] } (some ⟨L, 0, none⟩) lc vk vn vt va1 vn1 vc1 va2 vn2 vc2 ta tc ca cc wx)
  case first =>
   obtain ⟨D, hD⟩ : ∃ D, D = y.drew := ⟨_, rfl⟩
   have HBD : Hid (Below y.heap.size y D) := by show Below _ _ _; rw [hD]; exact (Below.refl _ _).drew
   have HSV : Hid (∀ u, Below y.heap.size y u → u.heap[V]? = some (.cells #[.int .i64 yk, .int .i64 yn, .string (str yt), .slice ya1 yn1 yc1, .slice ya2 yn2 yc2] 25 (0, 0))) := fun u hu => (hu.block V (unhide HVy)).trans (unhide HRVy)
   have HC4 : Hid (∀ u, Below y.heap.size y u → u.cell? ⟨L, i * 6 + 4, none⟩ = some (.slice a2 n e2)) := fun u hu => by
    have := (owns_cell (owns_same (unhide HLOy) (fun k hk => hu.block k (owns_lt (unhide HLOy) k hk).2)) (i * 6 + 4) _ (unhide HQ).2.2.2.2.1).1
    rw [← unhide HNN] at this
    exact this
   refine wp_region_held_drew (S := fun u => u.heap[V]? = some (.cells #[.int .i64 yk, .int .i64 yn, .string (str yt), .slice ya1 yn1 yc1, .slice ya2 yn2 yc2] 25 (0, 0))) (by kernel_rfl) (by rw [← hD]; exact unhide HSV D (unhide HBD)) (fun hHeld => ?_)
   rw [← hD] at hHeld ⊢
   clear hD
   refine wpAnyH_take (i := 0) (oi := ?_) (v := ?_) ?_ (by kernel_rfl) ?_ ?_ ?_ ?_ hHeld ?_
   rotate_left 2
   ·(simp only [List.getElem?_toArray, List.getElem?_cons_zero]) <;> with_reducible rfl
   ·kernel_rfl
   ·kernel_rfl
   ·exact fun _ _ _ h => h
   ·exact Or.inl ⟨by rfl, by (intro w hSw; (try dsimp only at hSw); obtain ⟨b0, b1, b2, b3, b4⟩ := cells5 hSw; go_simp <;> with_reducible rfl)⟩
   simp only [Act.put, List.setIfInBounds_toArray, List.set_cons_zero, List.set_cons_succ]
   refine wpAnyH_take (i := 1) (oi := ?_) (v := ?_) ?_ (by kernel_rfl) ?_ ?_ ?_ ?_ hHeld ?_
   rotate_left 2
   ·(simp only [List.getElem?_toArray, List.getElem?_cons_succ, List.getElem?_cons_zero]) <;> with_reducible rfl
   ·kernel_rfl
   ·kernel_rfl
   ·exact fun _ _ _ h => h
   ·exact Or.inl ⟨by rfl, by (intro w hSw; (try dsimp only at hSw); obtain ⟨b0, b1, b2, b3, b4⟩ := cells5 hSw; go_simp <;> with_reducible rfl)⟩
   simp only [Act.put, List.setIfInBounds_toArray, List.set_cons_zero, List.set_cons_succ]
   refine wpAnyH_take (i := 2) (oi := ?_) (v := ?_) ?_ (by kernel_rfl) ?_ ?_ ?_ ?_ hHeld ?_
   rotate_left 2
   ·(simp only [List.getElem?_toArray, List.getElem?_cons_succ, List.getElem?_cons_zero]) <;> with_reducible rfl
   ·kernel_rfl
   ·kernel_rfl
   ·exact fun _ _ _ h => h
   ·exact Or.inl ⟨by rfl, by (intro w hSw; (try dsimp only at hSw); obtain ⟨b0, b1, b2, b3, b4⟩ := cells5 hSw; go_simp <;> with_reducible rfl)⟩
   simp only [Act.put, List.setIfInBounds_toArray, List.set_cons_zero, List.set_cons_succ]
   refine wpAnyH_take (i := 3) (oi := ?_) (v := ?_) ?_ (by kernel_rfl) ?_ ?_ ?_ ?_ hHeld ?_
   rotate_left 2
   ·(simp only [List.getElem?_toArray, List.getElem?_cons_succ, List.getElem?_cons_zero]) <;> with_reducible rfl
   ·kernel_rfl
   ·kernel_rfl
   ·exact fun _ _ _ h => h
   ·exact Or.inl ⟨by rfl, by (intro w hSw; (try dsimp only at hSw); obtain ⟨b0, b1, b2, b3, b4⟩ := cells5 hSw; go_simp <;> with_reducible rfl)⟩
   simp only [Act.put, List.setIfInBounds_toArray, List.set_cons_zero, List.set_cons_succ]
   refine wpAnyH_take (i := 5) (oi := ?_) (v := ?_) ?_ (by kernel_rfl) ?_ ?_ ?_ ?_ hHeld ?_
   rotate_left 2
   ·(simp only [List.getElem?_toArray, List.getElem?_cons_succ, List.getElem?_cons_zero]) <;> with_reducible rfl
   ·kernel_rfl
   ·kernel_rfl
   ·exact fun _ _ _ h => h
   ·exact Or.inl ⟨by rfl, by (intro w hSw; (try dsimp only at hSw); obtain ⟨b0, b1, b2, b3, b4⟩ := cells5 hSw; go_simp <;> with_reducible rfl)⟩
   simp only [Act.put, List.setIfInBounds_toArray, List.set_cons_zero, List.set_cons_succ]
   refine wpAnyH_ready (rs := [4, 7]) (by kernel_rfl) (by simp) ?rda
   refine AllReadyH.cons (o := ?oa4) ?ha4 (fun K hK => ?ba4) (AllReadyH.cons (o := ?oa7) ?ha7 (fun K hK => ?ba7) AllReadyH.nil)
   case ha4 => (simp only [List.getElem?_toArray, List.getElem?_cons_succ, List.getElem?_cons_zero]) <;> with_reducible rfl
   case ha7 => (simp only [List.getElem?_toArray, List.getElem?_cons_succ, List.getElem?_cons_zero]) <;> with_reducible rfl
   case ba4 =>
    have c4 := unhide HC4 D (unhide HBD)
    go_simp
    clear c4
    refine hK.out _ _ (unhide HSV D (unhide HBD)) (fun hHeld => ?_)
    clear hK K
    try simp only [Act.put, List.setIfInBounds_toArray, List.set_cons_zero, List.set_cons_succ]
    refine wpAnyH_take (i := 6) (oi := ?_) (v := ?_) ?_ (by kernel_rfl) ?_ ?_ ?_ ?_ hHeld ?_
    rotate_left 2
    ·(simp only [List.getElem?_toArray, List.getElem?_cons_succ, List.getElem?_cons_zero]) <;> with_reducible rfl
    ·kernel_rfl
    ·kernel_rfl
    ·exact fun _ _ _ h => h
    ·exact Or.inl ⟨by rfl, by (intro w hSw; (try dsimp only at hSw); obtain ⟨b0, b1, b2, b3, b4⟩ := cells5 hSw; go_simp <;> with_reducible rfl)⟩
    simp only [Act.put, List.setIfInBounds_toArray, List.set_cons_zero, List.set_cons_succ]
    refine wpAnyH_ready (rs := [7]) (by kernel_rfl) (by simp) ?rdb
    refine AllReadyH.cons (o := ?ob7) ?hb7 (fun K hK => ?bb7) AllReadyH.nil
    case hb7 => (simp only [List.getElem?_toArray, List.getElem?_cons_succ, List.getElem?_cons_zero]) <;> with_reducible rfl
    case bb7 =>
     obtain ⟨u, hu⟩ : ∃ u, u = D.alloc (.cells #[.int .i64 0, .int .i64 0, .string ⟨#[]⟩, .slice none 0 0, .slice none 0 0] 25) := ⟨_, rfl⟩
     obtain ⟨Z, hZ⟩ : ∃ Z, Z = D.heap.size := ⟨_, rfl⟩
     have HBu : Hid (Below y.heap.size y u) := by show Below _ _ _; rw [hu]; exact (unhide HBD).alloc (unhide HBD).size _
     have HZu : Hid (u.heap[Z]? = some (.cells zJ.toArray 25 (0, 0))) := by show _ = _; rw [hu, hZ]; exact heap_alloc_new _ _
     go_simp
     rw [← hu, ← hZ]
     clear hu hZ
     refine hK.out _ _ (unhide HSV u (unhide HBu)) (fun hHeld => ?_)
     clear hK K
     try simp only [Act.put, List.setIfInBounds_toArray, List.set_cons_zero, List.set_cons_succ]
     refine wpAnyH_ready (rs := [8]) (by kernel_rfl) (by simp) ?rdct
     refine AllReadyH.cons (o := ?oct8) ?hct8 (fun K hK => ?bct8) AllReadyH.nil
     case hct8 => (simp only [List.getElem?_toArray, List.getElem?_cons_succ, List.getElem?_cons_zero]) <;> with_reducible rfl
     case bct8 =>
      refine stp_appz u rfl (.tmp 33) (.tmp 36) rfl base a2 e2 n xs rfl (owns_same (unhide HJy) (fun k hk => (unhide HBu).block k (owns_lt (unhide HJy) k hk).2)) Z _ rfl (unhide HZu) hnB (Nat.le_trans (unhide HBSy) (unhide HBu).size) ?_
      intro G cap w2 HO HG HAT HGL
      have hGV : G ≠ V := by
       have := unhide HVy
       rcases unhide HAT with q | q
       ·have := (unhide HLT).1 G q; omega
       ·have := (unhide HBu).size; omega
      have hGLn : G ≠ L := by
       have hl := (owns_lt (unhide HLOy) L rfl).2
       rcases unhide HAT with q | q
       ·exact (unhide HLT).2.2.2.1 G q
       ·have := (unhide HBu).size; omega
      have HGN : Hid (G ≠ V ∧ G ≠ L) := ⟨hGV, hGLn⟩
      have k2 : ∀ k, k < y.heap.size → blk a2 ≠ some k → w2.heap[k]? = y.heap[k]? := fun k hk hn => ((unhide HG).block k (Nat.lt_of_lt_of_le hk (unhide HBu).size) (fun e => hn e.symm)).trans ((unhide HBu).block k hk)
      have HV2 : Hid (w2.heap[V]? = some (.cells #[.int .i64 yk, .int .i64 yn, .string (str yt), .slice ya1 yn1 yc1, .slice ya2 yn2 yc2] 25 (0, 0))) := (k2 V (unhide HVy) (fun e => by have := (unhide HLT).1 V e; omega)).trans (unhide HRVy)
      have HL2 : Hid (w2.heap[L]? = y.heap[L]?) := k2 L (owns_lt (unhide HLOy) L rfl).2 (fun e => (unhide HLT).2.2.2.1 L e rfl)
      have lo2 := owns_same (w' := w2) (unhide HLOy) (fun k hk => by have : L = k := (by simpa [blk] using hk); subst this; exact unhide HL2)
      have HLO2 := hide lo2
      obtain ⟨c4, cf4⟩ := owns_cell lo2 (i * 6 + 4) _ (unhide HQ).2.2.2.2.1
      have hxl : xs.length = n * 5 := (unhide HJy).1
      have HXL := hide hxl
      have hz5 : ∀ m v, zJ[m]? = some v → (xs ++ zJ)[n * 5 + m]? = some v := fun m v hm => by rw [List.getElem?_append_right (by omega), show n * 5 + m - xs.length = m by omega]; exact hm
      obtain ⟨x0, f0⟩ := owns_cell (unhide HO) _ _ (hz5 0 _ rfl)
      obtain ⟨x1, f1⟩ := owns_cell (unhide HO) _ _ (hz5 1 _ rfl)
      obtain ⟨x2, f2⟩ := owns_cell (unhide HO) _ _ (hz5 2 _ rfl)
      obtain ⟨x3, f3⟩ := owns_cell (unhide HO) _ _ (hz5 3 _ rfl)
      obtain ⟨x4, f4⟩ := owns_cell (unhide HO) _ _ (hz5 4 _ rfl)
      rw [Nat.add_zero] at x0 f0
      have hil : (n : Int) < (n : Int) + 1 := by omega
      clear k2 hxl hz5 lo2 hGV hGLn
      refine hK.out _ _ (unhide HV2) (fun hHeld => ?_)
      clear hK K
      try simp only [Act.put, List.setIfInBounds_toArray, List.set_cons_zero, List.set_cons_succ]
      refine wpAnyH_take (i := 9) (oi := ?_) (v := ?_) ?_ (by kernel_rfl) ?_ ?_ ?_ ?_ hHeld ?_
      rotate_left 2
      ·(simp only [List.getElem?_toArray, List.getElem?_cons_succ, List.getElem?_cons_zero]) <;> with_reducible rfl
      ·kernel_rfl
      ·kernel_rfl
      ·exact fun _ _ _ h => h
      ·exact Or.inl ⟨by rfl, by (intro w hSw; (try dsimp only at hSw); obtain ⟨b0, b1, b2, b3, b4⟩ := cells5 hSw; go_simp <;> with_reducible rfl)⟩
      simp only [Act.put, List.setIfInBounds_toArray, List.set_cons_zero, List.set_cons_succ]
      refine wpAnyH_take (i := 11) (oi := ?_) (v := ?_) ?_ (by kernel_rfl) ?_ ?_ ?_ ?_ hHeld ?_
      rotate_left 2
      ·(simp only [List.getElem?_toArray, List.getElem?_cons_succ, List.getElem?_cons_zero]) <;> with_reducible rfl
      ·kernel_rfl
      ·kernel_rfl
      ·exact fun _ _ _ h => h
      ·exact Or.inl ⟨by rfl, by (intro w hSw; (try dsimp only at hSw); obtain ⟨b0, b1, b2, b3, b4⟩ := cells5 hSw; go_simp <;> with_reducible rfl)⟩
      simp only [Act.put, List.setIfInBounds_toArray, List.set_cons_zero, List.set_cons_succ]
      refine wpAnyH_take (i := 12) (oi := ?_) (v := ?_) ?_ (by kernel_rfl) ?_ ?_ ?_ ?_ hHeld ?_
      rotate_left 2
      ·(simp only [List.getElem?_toArray, List.getElem?_cons_succ, List.getElem?_cons_zero]) <;> with_reducible rfl
      ·kernel_rfl
      ·kernel_rfl
      ·exact fun _ _ _ h => h
      ·exact Or.inl ⟨by rfl, by (intro w hSw; (try dsimp only at hSw); obtain ⟨b0, b1, b2, b3, b4⟩ := cells5 hSw; go_simp <;> with_reducible rfl)⟩
      simp only [Act.put, List.setIfInBounds_toArray, List.set_cons_zero, List.set_cons_succ]
      refine wpAnyH_take (i := 13) (oi := ?_) (v := ?_) ?_ (by kernel_rfl) ?_ ?_ ?_ ?_ hHeld ?_
      rotate_left 2
      ·(simp only [List.getElem?_toArray, List.getElem?_cons_succ, List.getElem?_cons_zero]) <;> with_reducible rfl
      ·kernel_rfl
      ·kernel_rfl
      ·exact fun _ _ _ h => h
      ·exact Or.inl ⟨by rfl, by (intro w hSw; (try dsimp only at hSw); obtain ⟨b0, b1, b2, b3, b4⟩ := cells5 hSw; go_simp <;> with_reducible rfl)⟩
      simp only [Act.put, List.setIfInBounds_toArray, List.set_cons_zero, List.set_cons_succ]
      refine wpAnyH_ready (rs := [10, 14]) (by kernel_rfl) (by simp) ?rdcu
      refine AllReadyH.cons (o := ?ocu10) ?hcu10 (fun K hK => ?bcu10) (AllReadyH.cons (o := ?ocu14) ?hcu14 (fun K hK => ?bcu14) AllReadyH.nil)
      case hcu10 => (simp only [List.getElem?_toArray, List.getElem?_cons_succ, List.getElem?_cons_zero]) <;> with_reducible rfl
      case hcu14 => (simp only [List.getElem?_toArray, List.getElem?_cons_succ, List.getElem?_cons_zero]) <;> with_reducible rfl
      case bcu10 =>
       obtain ⟨w5, h5⟩ : ∃ w5, w5 = (((((w2.setCell ⟨G, n * 5, none⟩ (.int .i64 yk)).setCell ⟨G, n * 5 + 1, none⟩ (.int .i64 yn)).setCell ⟨G, n * 5 + 2, none⟩ (.string (str yt))).setCell ⟨G, n * 5 + 3, none⟩ (.slice ya1 yn1 yc1)).setCell ⟨G, n * 5 + 4, none⟩ (.slice ya2 yn2 yc2)) := ⟨_, rfl⟩
       have HO5 : Hid (OwnJ w5 base (some ⟨G, 0, none⟩) cap (n + 1) (xs ++ [.int .i64 yk, .int .i64 yn, .string (str yt), .slice ya1 yn1 yc1, .slice ya2 yn2 yc2])) := by show OwnJ _ _ _ _ _ _; rw [h5]; exact own5 (unhide HO) (unhide HXL) _ _ _ _ _
       have HK5 : Hid (∀ k, k ≠ G → w5.heap[k]? = w2.heap[k]?) := fun k hk => by rw [h5]; exact far5 w2 G k _ _ _ _ _ _ _ _ _ _ hk
       have HZ5 : Hid (w5.heap.size = w2.heap.size ∧ w5.os = w2.os ∧ w5.tape = w2.tape ∧ w5.output = w2.output) := by
        obtain ⟨o1, o2, o3⟩ := oth5 w2 G (n * 5) (n * 5 + 1) (n * 5 + 2) (n * 5 + 3) (n * 5 + 4) (.int .i64 yk) (.int .i64 yn) (.string (str yt)) (.slice ya1 yn1 yc1) (.slice ya2 yn2 yc2)
        rw [← h5] at o1 o2 o3
        exact ⟨by rw [h5]; exact siz5 w2 G _ _ _ _ _ _ _ _ _ _, o1, o2, o3⟩
       have lo5 := owns_same (w' := w5) (unhide HLO2) (fun k hk => (unhide HK5) k (fun e => (unhide HGN).2 (by have : L = k := (by simpa [blk] using hk); omega)))
       obtain ⟨c5, cf5⟩ := owns_cell lo5 (i * 6 + 4) _ (unhide HQ).2.2.2.2.1
       have HLO5 := hide lo5
       clear lo5 c4 cf4
       go_simp
       rw [← h5]
       clear h5 x0 x1 x2 x3 x4 f0 f1 f2 f3 f4
       refine hK.out _ _ (((unhide HK5) V (Ne.symm (unhide HGN).1)).trans (unhide HV2)) (fun hHeld => ?_)
       clear hK K
       try simp only [Act.put, List.setIfInBounds_toArray, List.set_cons_zero, List.set_cons_succ]
       refine wpAnyH_ready (rs := [14]) (by kernel_rfl) (by simp) ?rdcw
       refine AllReadyH.cons (o := ?ocw14) ?hcw14 (fun K hK => ?bcw14) AllReadyH.nil
       case hcw14 => (simp only [List.getElem?_toArray, List.getElem?_cons_succ, List.getElem?_cons_zero]) <;> with_reducible rfl
       case bcw14 =>
        obtain ⟨w6, h6⟩ : ∃ w6, w6 = w5.setCell ⟨L, i * 6 + 4, none⟩ (.slice (some ⟨G, 0, none⟩) (n + 1) cap) := ⟨_, rfl⟩
        have HK6 : Hid (∀ k, k ≠ G → k ≠ L → w6.heap[k]? = w2.heap[k]?) := fun k n1 n2 => (by rw [h6]; exact Below.heap_setCell _ ⟨L, i * 6 + 4, none⟩ _ k n2 : w6.heap[k]? = w5.heap[k]?).trans (unhide HK5 k n1)
        have HJ6 : Hid (OwnJ w6 base (some ⟨G, 0, none⟩) cap (n + 1) (xs ++ [.int .i64 yk, .int .i64 yn, .string (str yt), .slice ya1 yn1 yc1, .slice ya2 yn2 yc2])) := owns_same (unhide HO5) (fun k hk => by rw [h6]; exact Below.heap_setCell _ ⟨L, i * 6 + 4, none⟩ _ k (fun e => (unhide HGN).2 (by have : G = k := (by simpa [blk] using hk); simp only at e; omega)))
        have HLO6 : Hid (w6.ownsRow base 112 6 (.slice (some ⟨L, 0, none⟩) m.l.length lc) m.l.length (fs.set (i * 6 + 4) (.slice (some ⟨G, 0, none⟩) (n + 1) cap))) := by show World.ownsRow _ _ _ _ _ _ _; rw [h6]; exact owns_set (unhide HLO5) (i * 6 + 4) (.slice (some ⟨G, 0, none⟩) (n + 1) cap) (by have h1 := unhide HFL; have h2 := unhide HTI; omega)
        have HZ6 : Hid (w6.heap.size = w2.heap.size ∧ w6.os = w2.os ∧ w6.tape = w2.tape ∧ w6.output = w2.output) := by
         have mv := Mv.set w5 L (i * 6 + 4) (.slice (some ⟨G, 0, none⟩) (n + 1) cap)
         rw [← h6] at mv
         exact ⟨by rw [h6]; simpa using (unhide HZ5).1, mv.os.trans (unhide HZ5).2.1, mv.tape.trans (unhide HZ5).2.2.1, mv.output.trans (unhide HZ5).2.2.2⟩
        have HV6 : Hid (w6.heap[V]? = some (.cells #[.int .i64 yk, .int .i64 yn, .string (str yt), .slice ya1 yn1 yc1, .slice ya2 yn2 yc2] 25 (0, 0))) := (unhide HK6 V (Ne.symm (unhide HGN).1) (fun e => by have := (unhide HLT).2.2.1; omega)).trans (unhide HV2)
        go_simp
        rw [← h6]
        clear h6 c5 cf5
        refine hK.out _ _ (unhide HV6) (fun hHeld => ?_)
        clear hK K
        try simp only [Act.put, List.setIfInBounds_toArray, List.set_cons_zero, List.set_cons_succ]
        have HRES : Hid (DnR y g P base { m with st := 5, l := l0 ++ [{ o with is := o.is ++ [j] }] } (some ⟨L, 0, none⟩) lc vk vn vt va1 vn1 vc1 va2 vn2 vc2 ta tc ca cc w6) := by
         obtain ⟨k1, k3⟩ := (unhide H1y).pushI (l0 := l0) (o := o) (unhide HLO) rfl (a1 := a1) (d1 := e1) (a2 := a2) (d2 := e2) (xs := xs) (by rw [← unhide HI]; exact ⟨(unhide HQ).1, (unhide HQ).2.1, (unhide HQ).2.2.1, (unhide HQ).2.2.2.1, (unhide HQ).2.2.2.2.2⟩) (unhide HTy) (by rw [← unhide HNN]; exact unhide HJy) (by rw [← unhide HI]; exact unhide HT1) (by rw [← unhide HI]; exact unhide HT2) (unhide HEy) (unhide Hvy) (unhide HBu) (unhide HG) ((unhide HAT).imp id (fun e => ⟨by have := (unhide HBu).size; omega, by omega⟩)) (w6 := w6) (cap := cap) (by rw [← unhide HNN]; exact unhide HJ6) (unhide HK6) (Nat.le_of_eq (unhide HZ6).1.symm) (unhide HZ6).2 (by rw [← unhide HNN, ← unhide HI]; exact unhide HLO6) (by rw [← unhide HI, unhide HFL]; have := unhide HTI; omega)
         exact ⟨_, _, k1, k3.mono (fun t ht => by omega)⟩
        refine wpAnyH_done (by kernel_rfl) ?_ _
        go_wp2_with fail
        go_meet
        exact unhide HRES
      case bcu14 =>
       obtain ⟨w5, h5⟩ : ∃ w5, w5 = w2.setCell ⟨L, i * 6 + 4, none⟩ (.slice (some ⟨G, 0, none⟩) (n + 1) cap) := ⟨_, rfl⟩
       have HK5 : Hid (∀ k, k ≠ L → w5.heap[k]? = w2.heap[k]?) := fun k hk => by rw [h5]; exact Below.heap_setCell _ ⟨L, i * 6 + 4, none⟩ _ k hk
       have HO5 : Hid (OwnJ w5 base (some ⟨G, 0, none⟩) cap (n + 1) (xs ++ zJ)) := owns_same (unhide HO) (fun k hk => (unhide HK5) k (fun e => (unhide HGN).2 (by have : G = k := (by simpa [blk] using hk); omega)))
       have HLO5 : Hid (w5.ownsRow base 112 6 (.slice (some ⟨L, 0, none⟩) m.l.length lc) m.l.length (fs.set (i * 6 + 4) (.slice (some ⟨G, 0, none⟩) (n + 1) cap))) := by show World.ownsRow _ _ _ _ _ _ _; rw [h5]; exact owns_set (unhide HLO2) (i * 6 + 4) (.slice (some ⟨G, 0, none⟩) (n + 1) cap) (by have h1 := unhide HFL; have h2 := unhide HTI; omega)
       have HZ5 : Hid (w5.heap.size = w2.heap.size ∧ w5.os = w2.os ∧ w5.tape = w2.tape ∧ w5.output = w2.output) := by
        have mv := Mv.set w2 L (i * 6 + 4) (.slice (some ⟨G, 0, none⟩) (n + 1) cap)
        rw [← h5] at mv
        exact ⟨by rw [h5]; simp, mv.os, mv.tape, mv.output⟩
       have HV5 : Hid (w5.heap[V]? = some (.cells #[.int .i64 yk, .int .i64 yn, .string (str yt), .slice ya1 yn1 yc1, .slice ya2 yn2 yc2] 25 (0, 0))) := (unhide HK5 V (fun e => by have := (unhide HLT).2.2.1; omega)).trans (unhide HV2)
       go_simp
       rw [← h5]
       clear h5 x0 x1 x2 x3 x4 f0 f1 f2 f3 f4 c4 cf4
       have hz5 : ∀ m v, zJ[m]? = some v → (xs ++ zJ)[n * 5 + m]? = some v := fun m v hm => by have hxl := unhide HXL; rw [List.getElem?_append_right (by omega), show n * 5 + m - xs.length = m by omega]; exact hm
       obtain ⟨x0, f0⟩ := owns_cell (unhide HO5) _ _ (hz5 0 _ rfl)
       obtain ⟨x1, f1⟩ := owns_cell (unhide HO5) _ _ (hz5 1 _ rfl)
       obtain ⟨x2, f2⟩ := owns_cell (unhide HO5) _ _ (hz5 2 _ rfl)
       obtain ⟨x3, f3⟩ := owns_cell (unhide HO5) _ _ (hz5 3 _ rfl)
       obtain ⟨x4, f4⟩ := owns_cell (unhide HO5) _ _ (hz5 4 _ rfl)
       rw [Nat.add_zero] at x0 f0
       clear hz5
       refine hK.out _ _ (unhide HV5) (fun hHeld => ?_)
       clear hK K
       try simp only [Act.put, List.setIfInBounds_toArray, List.set_cons_zero, List.set_cons_succ]
       refine wpAnyH_ready (rs := [10]) (by kernel_rfl) (by simp) ?rdcx
       refine AllReadyH.cons (o := ?ocx10) ?hcx10 (fun K hK => ?bcx10) AllReadyH.nil
       case hcx10 => (simp only [List.getElem?_toArray, List.getElem?_cons_succ, List.getElem?_cons_zero]) <;> with_reducible rfl
       case bcx10 =>
        obtain ⟨w6, h6⟩ : ∃ w6, w6 = (((((w5.setCell ⟨G, n * 5, none⟩ (.int .i64 yk)).setCell ⟨G, n * 5 + 1, none⟩ (.int .i64 yn)).setCell ⟨G, n * 5 + 2, none⟩ (.string (str yt))).setCell ⟨G, n * 5 + 3, none⟩ (.slice ya1 yn1 yc1)).setCell ⟨G, n * 5 + 4, none⟩ (.slice ya2 yn2 yc2)) := ⟨_, rfl⟩
        have HJ6 : Hid (OwnJ w6 base (some ⟨G, 0, none⟩) cap (n + 1) (xs ++ [.int .i64 yk, .int .i64 yn, .string (str yt), .slice ya1 yn1 yc1, .slice ya2 yn2 yc2])) := by show OwnJ _ _ _ _ _ _; rw [h6]; exact own5 (unhide HO5) (unhide HXL) _ _ _ _ _
        have k6 : ∀ k, k ≠ G → w6.heap[k]? = w5.heap[k]? := fun k hk => by rw [h6]; exact far5 w5 G k _ _ _ _ _ _ _ _ _ _ hk
        have HK6 : Hid (∀ k, k ≠ G → k ≠ L → w6.heap[k]? = w2.heap[k]?) := fun k n1 n2 => (k6 k n1).trans (unhide HK5 k n2)
        have HLO6 : Hid (w6.ownsRow base 112 6 (.slice (some ⟨L, 0, none⟩) m.l.length lc) m.l.length (fs.set (i * 6 + 4) (.slice (some ⟨G, 0, none⟩) (n + 1) cap))) := owns_same (unhide HLO5) (fun k hk => k6 k (fun e => (unhide HGN).2 (by have : L = k := (by simpa [blk] using hk); omega)))
        have HZ6 : Hid (w6.heap.size = w2.heap.size ∧ w6.os = w2.os ∧ w6.tape = w2.tape ∧ w6.output = w2.output) := by
         obtain ⟨o1, o2, o3⟩ := oth5 w5 G (n * 5) (n * 5 + 1) (n * 5 + 2) (n * 5 + 3) (n * 5 + 4) (.int .i64 yk) (.int .i64 yn) (.string (str yt)) (.slice ya1 yn1 yc1) (.slice ya2 yn2 yc2)
         rw [← h6] at o1 o2 o3
         exact ⟨(by rw [h6]; exact siz5 w5 G _ _ _ _ _ _ _ _ _ _ : w6.heap.size = w5.heap.size).trans (unhide HZ5).1, o1.trans (unhide HZ5).2.1, o2.trans (unhide HZ5).2.2.1, o3.trans (unhide HZ5).2.2.2⟩
        have HV6 : Hid (w6.heap[V]? = some (.cells #[.int .i64 yk, .int .i64 yn, .string (str yt), .slice ya1 yn1 yc1, .slice ya2 yn2 yc2] 25 (0, 0))) := (k6 V (Ne.symm (unhide HGN).1)).trans (unhide HV5)
        clear k6
        go_simp
        rw [← h6]
        clear h6 x0 x1 x2 x3 x4 f0 f1 f2 f3 f4
        refine hK.out _ _ (unhide HV6) (fun hHeld => ?_)
        clear hK K
        try simp only [Act.put, List.setIfInBounds_toArray, List.set_cons_zero, List.set_cons_succ]
        have HRES : Hid (DnR y g P base { m with st := 5, l := l0 ++ [{ o with is := o.is ++ [j] }] } (some ⟨L, 0, none⟩) lc vk vn vt va1 vn1 vc1 va2 vn2 vc2 ta tc ca cc w6) := by
         obtain ⟨k1, k3⟩ := (unhide H1y).pushI (l0 := l0) (o := o) (unhide HLO) rfl (a1 := a1) (d1 := e1) (a2 := a2) (d2 := e2) (xs := xs) (by rw [← unhide HI]; exact ⟨(unhide HQ).1, (unhide HQ).2.1, (unhide HQ).2.2.1, (unhide HQ).2.2.2.1, (unhide HQ).2.2.2.2.2⟩) (unhide HTy) (by rw [← unhide HNN]; exact unhide HJy) (by rw [← unhide HI]; exact unhide HT1) (by rw [← unhide HI]; exact unhide HT2) (unhide HEy) (unhide Hvy) (unhide HBu) (unhide HG) ((unhide HAT).imp id (fun e => ⟨by have := (unhide HBu).size; omega, by omega⟩)) (w6 := w6) (cap := cap) (by rw [← unhide HNN]; exact unhide HJ6) (unhide HK6) (Nat.le_of_eq (unhide HZ6).1.symm) (unhide HZ6).2 (by rw [← unhide HNN, ← unhide HI]; exact unhide HLO6) (by rw [← unhide HI, unhide HFL]; have := unhide HTI; omega)
         exact ⟨_, _, k1, k3.mono (fun t ht => by omega)⟩
        refine wpAnyH_done (by kernel_rfl) ?_ _
        go_wp2_with fail
        go_meet
        exact unhide HRES
   case ba7 =>
    obtain ⟨u, hu⟩ : ∃ u, u = D.alloc (.cells #[.int .i64 0, .int .i64 0, .string ⟨#[]⟩, .slice none 0 0, .slice none 0 0] 25) := ⟨_, rfl⟩
    obtain ⟨Z, hZ⟩ : ∃ Z, Z = D.heap.size := ⟨_, rfl⟩
    have HBu : Hid (Below y.heap.size y u) := by show Below _ _ _; rw [hu]; exact (unhide HBD).alloc (unhide HBD).size _
    have HZu : Hid (u.heap[Z]? = some (.cells zJ.toArray 25 (0, 0))) := by show _ = _; rw [hu, hZ]; exact heap_alloc_new _ _
    go_simp
    rw [← hu, ← hZ]
    clear hu hZ
    refine hK.out _ _ (unhide HSV u (unhide HBu)) (fun hHeld => ?_)
    clear hK K
    try simp only [Act.put, List.setIfInBounds_toArray, List.set_cons_zero, List.set_cons_succ]
    refine wpAnyH_ready (rs := [4]) (by kernel_rfl) (by simp) ?rdd
    refine AllReadyH.cons (o := ?od4) ?hd4 (fun K hK => ?bd4) AllReadyH.nil
    case hd4 => (simp only [List.getElem?_toArray, List.getElem?_cons_succ, List.getElem?_cons_zero]) <;> with_reducible rfl
    case bd4 =>
     have c4 := unhide HC4 u (unhide HBu)
     go_simp
     clear c4
     refine hK.out _ _ (unhide HSV u (unhide HBu)) (fun hHeld => ?_)
     clear hK K
     try simp only [Act.put, List.setIfInBounds_toArray, List.set_cons_zero, List.set_cons_succ]
     refine wpAnyH_take (i := 6) (oi := ?_) (v := ?_) ?_ (by kernel_rfl) ?_ ?_ ?_ ?_ hHeld ?_
     rotate_left 2
     ·(simp only [List.getElem?_toArray, List.getElem?_cons_succ, List.getElem?_cons_zero]) <;> with_reducible rfl
     ·kernel_rfl
     ·kernel_rfl
     ·exact fun _ _ _ h => h
     ·exact Or.inl ⟨by rfl, by (intro w hSw; (try dsimp only at hSw); obtain ⟨b0, b1, b2, b3, b4⟩ := cells5 hSw; go_simp <;> with_reducible rfl)⟩
     simp only [Act.put, List.setIfInBounds_toArray, List.set_cons_zero, List.set_cons_succ]
     refine wpAnyH_ready (rs := [8]) (by kernel_rfl) (by simp) ?rdet
     refine AllReadyH.cons (o := ?oet8) ?het8 (fun K hK => ?bet8) AllReadyH.nil
     case het8 => (simp only [List.getElem?_toArray, List.getElem?_cons_succ, List.getElem?_cons_zero]) <;> with_reducible rfl
     case bet8 =>
      refine stp_appz u rfl (.tmp 33) (.tmp 36) rfl base a2 e2 n xs rfl (owns_same (unhide HJy) (fun k hk => (unhide HBu).block k (owns_lt (unhide HJy) k hk).2)) Z _ rfl (unhide HZu) hnB (Nat.le_trans (unhide HBSy) (unhide HBu).size) ?_
      intro G cap w2 HO HG HAT HGL
      have hGV : G ≠ V := by
       have := unhide HVy
       rcases unhide HAT with q | q
       ·have := (unhide HLT).1 G q; omega
       ·have := (unhide HBu).size; omega
      have hGLn : G ≠ L := by
       have hl := (owns_lt (unhide HLOy) L rfl).2
       rcases unhide HAT with q | q
       ·exact (unhide HLT).2.2.2.1 G q
       ·have := (unhide HBu).size; omega
      have HGN : Hid (G ≠ V ∧ G ≠ L) := ⟨hGV, hGLn⟩
      have k2 : ∀ k, k < y.heap.size → blk a2 ≠ some k → w2.heap[k]? = y.heap[k]? := fun k hk hn => ((unhide HG).block k (Nat.lt_of_lt_of_le hk (unhide HBu).size) (fun e => hn e.symm)).trans ((unhide HBu).block k hk)
      have HV2 : Hid (w2.heap[V]? = some (.cells #[.int .i64 yk, .int .i64 yn, .string (str yt), .slice ya1 yn1 yc1, .slice ya2 yn2 yc2] 25 (0, 0))) := (k2 V (unhide HVy) (fun e => by have := (unhide HLT).1 V e; omega)).trans (unhide HRVy)
      have HL2 : Hid (w2.heap[L]? = y.heap[L]?) := k2 L (owns_lt (unhide HLOy) L rfl).2 (fun e => (unhide HLT).2.2.2.1 L e rfl)
      have lo2 := owns_same (w' := w2) (unhide HLOy) (fun k hk => by have : L = k := (by simpa [blk] using hk); subst this; exact unhide HL2)
      have HLO2 := hide lo2
      obtain ⟨c4, cf4⟩ := owns_cell lo2 (i * 6 + 4) _ (unhide HQ).2.2.2.2.1
      have hxl : xs.length = n * 5 := (unhide HJy).1
      have HXL := hide hxl
      have hz5 : ∀ m v, zJ[m]? = some v → (xs ++ zJ)[n * 5 + m]? = some v := fun m v hm => by rw [List.getElem?_append_right (by omega), show n * 5 + m - xs.length = m by omega]; exact hm
      obtain ⟨x0, f0⟩ := owns_cell (unhide HO) _ _ (hz5 0 _ rfl)
      obtain ⟨x1, f1⟩ := owns_cell (unhide HO) _ _ (hz5 1 _ rfl)
      obtain ⟨x2, f2⟩ := owns_cell (unhide HO) _ _ (hz5 2 _ rfl)
      obtain ⟨x3, f3⟩ := owns_cell (unhide HO) _ _ (hz5 3 _ rfl)
      obtain ⟨x4, f4⟩ := owns_cell (unhide HO) _ _ (hz5 4 _ rfl)
      rw [Nat.add_zero] at x0 f0
      have hil : (n : Int) < (n : Int) + 1 := by omega
      clear k2 hxl hz5 lo2 hGV hGLn
      refine hK.out _ _ (unhide HV2) (fun hHeld => ?_)
      clear hK K
      try simp only [Act.put, List.setIfInBounds_toArray, List.set_cons_zero, List.set_cons_succ]
      refine wpAnyH_take (i := 9) (oi := ?_) (v := ?_) ?_ (by kernel_rfl) ?_ ?_ ?_ ?_ hHeld ?_
      rotate_left 2
      ·(simp only [List.getElem?_toArray, List.getElem?_cons_succ, List.getElem?_cons_zero]) <;> with_reducible rfl
      ·kernel_rfl
      ·kernel_rfl
      ·exact fun _ _ _ h => h
      ·exact Or.inl ⟨by rfl, by (intro w hSw; (try dsimp only at hSw); obtain ⟨b0, b1, b2, b3, b4⟩ := cells5 hSw; go_simp <;> with_reducible rfl)⟩
      simp only [Act.put, List.setIfInBounds_toArray, List.set_cons_zero, List.set_cons_succ]
      refine wpAnyH_take (i := 11) (oi := ?_) (v := ?_) ?_ (by kernel_rfl) ?_ ?_ ?_ ?_ hHeld ?_
      rotate_left 2
      ·(simp only [List.getElem?_toArray, List.getElem?_cons_succ, List.getElem?_cons_zero]) <;> with_reducible rfl
      ·kernel_rfl
      ·kernel_rfl
      ·exact fun _ _ _ h => h
      ·exact Or.inl ⟨by rfl, by (intro w hSw; (try dsimp only at hSw); obtain ⟨b0, b1, b2, b3, b4⟩ := cells5 hSw; go_simp <;> with_reducible rfl)⟩
      simp only [Act.put, List.setIfInBounds_toArray, List.set_cons_zero, List.set_cons_succ]
      refine wpAnyH_take (i := 12) (oi := ?_) (v := ?_) ?_ (by kernel_rfl) ?_ ?_ ?_ ?_ hHeld ?_
      rotate_left 2
      ·(simp only [List.getElem?_toArray, List.getElem?_cons_succ, List.getElem?_cons_zero]) <;> with_reducible rfl
      ·kernel_rfl
      ·kernel_rfl
      ·exact fun _ _ _ h => h
      ·exact Or.inl ⟨by rfl, by (intro w hSw; (try dsimp only at hSw); obtain ⟨b0, b1, b2, b3, b4⟩ := cells5 hSw; go_simp <;> with_reducible rfl)⟩
      simp only [Act.put, List.setIfInBounds_toArray, List.set_cons_zero, List.set_cons_succ]
      refine wpAnyH_take (i := 13) (oi := ?_) (v := ?_) ?_ (by kernel_rfl) ?_ ?_ ?_ ?_ hHeld ?_
      rotate_left 2
      ·(simp only [List.getElem?_toArray, List.getElem?_cons_succ, List.getElem?_cons_zero]) <;> with_reducible rfl
      ·kernel_rfl
      ·kernel_rfl
      ·exact fun _ _ _ h => h
      ·exact Or.inl ⟨by rfl, by (intro w hSw; (try dsimp only at hSw); obtain ⟨b0, b1, b2, b3, b4⟩ := cells5 hSw; go_simp <;> with_reducible rfl)⟩
      simp only [Act.put, List.setIfInBounds_toArray, List.set_cons_zero, List.set_cons_succ]
      refine wpAnyH_ready (rs := [10, 14]) (by kernel_rfl) (by simp) ?rdeu
      refine AllReadyH.cons (o := ?oeu10) ?heu10 (fun K hK => ?beu10) (AllReadyH.cons (o := ?oeu14) ?heu14 (fun K hK => ?beu14) AllReadyH.nil)
      case heu10 => (simp only [List.getElem?_toArray, List.getElem?_cons_succ, List.getElem?_cons_zero]) <;> with_reducible rfl
      case heu14 => (simp only [List.getElem?_toArray, List.getElem?_cons_succ, List.getElem?_cons_zero]) <;> with_reducible rfl
      case beu10 =>
       obtain ⟨w5, h5⟩ : ∃ w5, w5 = (((((w2.setCell ⟨G, n * 5, none⟩ (.int .i64 yk)).setCell ⟨G, n * 5 + 1, none⟩ (.int .i64 yn)).setCell ⟨G, n * 5 + 2, none⟩ (.string (str yt))).setCell ⟨G, n * 5 + 3, none⟩ (.slice ya1 yn1 yc1)).setCell ⟨G, n * 5 + 4, none⟩ (.slice ya2 yn2 yc2)) := ⟨_, rfl⟩
       have HO5 : Hid (OwnJ w5 base (some ⟨G, 0, none⟩) cap (n + 1) (xs ++ [.int .i64 yk, .int .i64 yn, .string (str yt), .slice ya1 yn1 yc1, .slice ya2 yn2 yc2])) := by show OwnJ _ _ _ _ _ _; rw [h5]; exact own5 (unhide HO) (unhide HXL) _ _ _ _ _
       have HK5 : Hid (∀ k, k ≠ G → w5.heap[k]? = w2.heap[k]?) := fun k hk => by rw [h5]; exact far5 w2 G k _ _ _ _ _ _ _ _ _ _ hk
       have HZ5 : Hid (w5.heap.size = w2.heap.size ∧ w5.os = w2.os ∧ w5.tape = w2.tape ∧ w5.output = w2.output) := by
        obtain ⟨o1, o2, o3⟩ := oth5 w2 G (n * 5) (n * 5 + 1) (n * 5 + 2) (n * 5 + 3) (n * 5 + 4) (.int .i64 yk) (.int .i64 yn) (.string (str yt)) (.slice ya1 yn1 yc1) (.slice ya2 yn2 yc2)
        rw [← h5] at o1 o2 o3
        exact ⟨by rw [h5]; exact siz5 w2 G _ _ _ _ _ _ _ _ _ _, o1, o2, o3⟩
       have lo5 := owns_same (w' := w5) (unhide HLO2) (fun k hk => (unhide HK5) k (fun e => (unhide HGN).2 (by have : L = k := (by simpa [blk] using hk); omega)))
       obtain ⟨c5, cf5⟩ := owns_cell lo5 (i * 6 + 4) _ (unhide HQ).2.2.2.2.1
       have HLO5 := hide lo5
       clear lo5 c4 cf4
       go_simp
       rw [← h5]
       clear h5 x0 x1 x2 x3 x4 f0 f1 f2 f3 f4
       refine hK.out _ _ (((unhide HK5) V (Ne.symm (unhide HGN).1)).trans (unhide HV2)) (fun hHeld => ?_)
       clear hK K
       try simp only [Act.put, List.setIfInBounds_toArray, List.set_cons_zero, List.set_cons_succ]
       refine wpAnyH_ready (rs := [14]) (by kernel_rfl) (by simp) ?rdew
       refine AllReadyH.cons (o := ?oew14) ?hew14 (fun K hK => ?bew14) AllReadyH.nil
       case hew14 => (simp only [List.getElem?_toArray, List.getElem?_cons_succ, List.getElem?_cons_zero]) <;> with_reducible rfl
       case bew14 =>
        obtain ⟨w6, h6⟩ : ∃ w6, w6 = w5.setCell ⟨L, i * 6 + 4, none⟩ (.slice (some ⟨G, 0, none⟩) (n + 1) cap) := ⟨_, rfl⟩
        have HK6 : Hid (∀ k, k ≠ G → k ≠ L → w6.heap[k]? = w2.heap[k]?) := fun k n1 n2 => (by rw [h6]; exact Below.heap_setCell _ ⟨L, i * 6 + 4, none⟩ _ k n2 : w6.heap[k]? = w5.heap[k]?).trans (unhide HK5 k n1)
        have HJ6 : Hid (OwnJ w6 base (some ⟨G, 0, none⟩) cap (n + 1) (xs ++ [.int .i64 yk, .int .i64 yn, .string (str yt), .slice ya1 yn1 yc1, .slice ya2 yn2 yc2])) := owns_same (unhide HO5) (fun k hk => by rw [h6]; exact Below.heap_setCell _ ⟨L, i * 6 + 4, none⟩ _ k (fun e => (unhide HGN).2 (by have : G = k := (by simpa [blk] using hk); simp only at e; omega)))
        have HLO6 : Hid (w6.ownsRow base 112 6 (.slice (some ⟨L, 0, none⟩) m.l.length lc) m.l.length (fs.set (i * 6 + 4) (.slice (some ⟨G, 0, none⟩) (n + 1) cap))) := by show World.ownsRow _ _ _ _ _ _ _; rw [h6]; exact owns_set (unhide HLO5) (i * 6 + 4) (.slice (some ⟨G, 0, none⟩) (n + 1) cap) (by have h1 := unhide HFL; have h2 := unhide HTI; omega)
        have HZ6 : Hid (w6.heap.size = w2.heap.size ∧ w6.os = w2.os ∧ w6.tape = w2.tape ∧ w6.output = w2.output) := by
         have mv := Mv.set w5 L (i * 6 + 4) (.slice (some ⟨G, 0, none⟩) (n + 1) cap)
         rw [← h6] at mv
         exact ⟨by rw [h6]; simpa using (unhide HZ5).1, mv.os.trans (unhide HZ5).2.1, mv.tape.trans (unhide HZ5).2.2.1, mv.output.trans (unhide HZ5).2.2.2⟩
        have HV6 : Hid (w6.heap[V]? = some (.cells #[.int .i64 yk, .int .i64 yn, .string (str yt), .slice ya1 yn1 yc1, .slice ya2 yn2 yc2] 25 (0, 0))) := (unhide HK6 V (Ne.symm (unhide HGN).1) (fun e => by have := (unhide HLT).2.2.1; omega)).trans (unhide HV2)
        go_simp
        rw [← h6]
        clear h6 c5 cf5
        refine hK.out _ _ (unhide HV6) (fun hHeld => ?_)
        clear hK K
        try simp only [Act.put, List.setIfInBounds_toArray, List.set_cons_zero, List.set_cons_succ]
        have HRES : Hid (DnR y g P base { m with st := 5, l := l0 ++ [{ o with is := o.is ++ [j] }] } (some ⟨L, 0, none⟩) lc vk vn vt va1 vn1 vc1 va2 vn2 vc2 ta tc ca cc w6) := by
         obtain ⟨k1, k3⟩ := (unhide H1y).pushI (l0 := l0) (o := o) (unhide HLO) rfl (a1 := a1) (d1 := e1) (a2 := a2) (d2 := e2) (xs := xs) (by rw [← unhide HI]; exact ⟨(unhide HQ).1, (unhide HQ).2.1, (unhide HQ).2.2.1, (unhide HQ).2.2.2.1, (unhide HQ).2.2.2.2.2⟩) (unhide HTy) (by rw [← unhide HNN]; exact unhide HJy) (by rw [← unhide HI]; exact unhide HT1) (by rw [← unhide HI]; exact unhide HT2) (unhide HEy) (unhide Hvy) (unhide HBu) (unhide HG) ((unhide HAT).imp id (fun e => ⟨by have := (unhide HBu).size; omega, by omega⟩)) (w6 := w6) (cap := cap) (by rw [← unhide HNN]; exact unhide HJ6) (unhide HK6) (Nat.le_of_eq (unhide HZ6).1.symm) (unhide HZ6).2 (by rw [← unhide HNN, ← unhide HI]; exact unhide HLO6) (by rw [← unhide HI, unhide HFL]; have := unhide HTI; omega)
         exact ⟨_, _, k1, k3.mono (fun t ht => by omega)⟩
        refine wpAnyH_done (by kernel_rfl) ?_ _
        go_wp2_with fail
        go_meet
        exact unhide HRES
      case beu14 =>
       obtain ⟨w5, h5⟩ : ∃ w5, w5 = w2.setCell ⟨L, i * 6 + 4, none⟩ (.slice (some ⟨G, 0, none⟩) (n + 1) cap) := ⟨_, rfl⟩
       have HK5 : Hid (∀ k, k ≠ L → w5.heap[k]? = w2.heap[k]?) := fun k hk => by rw [h5]; exact Below.heap_setCell _ ⟨L, i * 6 + 4, none⟩ _ k hk
       have HO5 : Hid (OwnJ w5 base (some ⟨G, 0, none⟩) cap (n + 1) (xs ++ zJ)) := owns_same (unhide HO) (fun k hk => (unhide HK5) k (fun e => (unhide HGN).2 (by have : G = k := (by simpa [blk] using hk); omega)))
       have HLO5 : Hid (w5.ownsRow base 112 6 (.slice (some ⟨L, 0, none⟩) m.l.length lc) m.l.length (fs.set (i * 6 + 4) (.slice (some ⟨G, 0, none⟩) (n + 1) cap))) := by show World.ownsRow _ _ _ _ _ _ _; rw [h5]; exact owns_set (unhide HLO2) (i * 6 + 4) (.slice (some ⟨G, 0, none⟩) (n + 1) cap) (by have h1 := unhide HFL; have h2 := unhide HTI; omega)
       have HZ5 : Hid (w5.heap.size = w2.heap.size ∧ w5.os = w2.os ∧ w5.tape = w2.tape ∧ w5.output = w2.output) := by
        have mv := Mv.set w2 L (i * 6 + 4) (.slice (some ⟨G, 0, none⟩) (n + 1) cap)
        rw [← h5] at mv
        exact ⟨by rw [h5]; simp, mv.os, mv.tape, mv.output⟩
       have HV5 : Hid (w5.heap[V]? = some (.cells #[.int .i64 yk, .int .i64 yn, .string (str yt), .slice ya1 yn1 yc1, .slice ya2 yn2 yc2] 25 (0, 0))) := (unhide HK5 V (fun e => by have := (unhide HLT).2.2.1; omega)).trans (unhide HV2)
       go_simp
       rw [← h5]
       clear h5 x0 x1 x2 x3 x4 f0 f1 f2 f3 f4 c4 cf4
       have hz5 : ∀ m v, zJ[m]? = some v → (xs ++ zJ)[n * 5 + m]? = some v := fun m v hm => by have hxl := unhide HXL; rw [List.getElem?_append_right (by omega), show n * 5 + m - xs.length = m by omega]; exact hm
       obtain ⟨x0, f0⟩ := owns_cell (unhide HO5) _ _ (hz5 0 _ rfl)
       obtain ⟨x1, f1⟩ := owns_cell (unhide HO5) _ _ (hz5 1 _ rfl)
       obtain ⟨x2, f2⟩ := owns_cell (unhide HO5) _ _ (hz5 2 _ rfl)
       obtain ⟨x3, f3⟩ := owns_cell (unhide HO5) _ _ (hz5 3 _ rfl)
       obtain ⟨x4, f4⟩ := owns_cell (unhide HO5) _ _ (hz5 4 _ rfl)
       rw [Nat.add_zero] at x0 f0
       clear hz5
       refine hK.out _ _ (unhide HV5) (fun hHeld => ?_)
       clear hK K
       try simp only [Act.put, List.setIfInBounds_toArray, List.set_cons_zero, List.set_cons_succ]
       refine wpAnyH_ready (rs := [10]) (by kernel_rfl) (by simp) ?rdex
       refine AllReadyH.cons (o := ?oex10) ?hex10 (fun K hK => ?bex10) AllReadyH.nil
       case hex10 => (simp only [List.getElem?_toArray, List.getElem?_cons_succ, List.getElem?_cons_zero]) <;> with_reducible rfl
       case bex10 =>
        obtain ⟨w6, h6⟩ : ∃ w6, w6 = (((((w5.setCell ⟨G, n * 5, none⟩ (.int .i64 yk)).setCell ⟨G, n * 5 + 1, none⟩ (.int .i64 yn)).setCell ⟨G, n * 5 + 2, none⟩ (.string (str yt))).setCell ⟨G, n * 5 + 3, none⟩ (.slice ya1 yn1 yc1)).setCell ⟨G, n * 5 + 4, none⟩ (.slice ya2 yn2 yc2)) := ⟨_, rfl⟩
        have HJ6 : Hid (OwnJ w6 base (some ⟨G, 0, none⟩) cap (n + 1) (xs ++ [.int .i64 yk, .int .i64 yn, .string (str yt), .slice ya1 yn1 yc1, .slice ya2 yn2 yc2])) := by show OwnJ _ _ _ _ _ _; rw [h6]; exact own5 (unhide HO5) (unhide HXL) _ _ _ _ _
        have k6 : ∀ k, k ≠ G → w6.heap[k]? = w5.heap[k]? := fun k hk => by rw [h6]; exact far5 w5 G k _ _ _ _ _ _ _ _ _ _ hk
        have HK6 : Hid (∀ k, k ≠ G → k ≠ L → w6.heap[k]? = w2.heap[k]?) := fun k n1 n2 => (k6 k n1).trans (unhide HK5 k n2)
        have HLO6 : Hid (w6.ownsRow base 112 6 (.slice (some ⟨L, 0, none⟩) m.l.length lc) m.l.length (fs.set (i * 6 + 4) (.slice (some ⟨G, 0, none⟩) (n + 1) cap))) := owns_same (unhide HLO5) (fun k hk => k6 k (fun e => (unhide HGN).2 (by have : L = k := (by simpa [blk] using hk); omega)))
        have HZ6 : Hid (w6.heap.size = w2.heap.size ∧ w6.os = w2.os ∧ w6.tape = w2.tape ∧ w6.output = w2.output) := by
         obtain ⟨o1, o2, o3⟩ := oth5 w5 G (n * 5) (n * 5 + 1) (n * 5 + 2) (n * 5 + 3) (n * 5 + 4) (.int .i64 yk) (.int .i64 yn) (.string (str yt)) (.slice ya1 yn1 yc1) (.slice ya2 yn2 yc2)
         rw [← h6] at o1 o2 o3
         exact ⟨(by rw [h6]; exact siz5 w5 G _ _ _ _ _ _ _ _ _ _ : w6.heap.size = w5.heap.size).trans (unhide HZ5).1, o1.trans (unhide HZ5).2.1, o2.trans (unhide HZ5).2.2.1, o3.trans (unhide HZ5).2.2.2⟩
        have HV6 : Hid (w6.heap[V]? = some (.cells #[.int .i64 yk, .int .i64 yn, .string (str yt), .slice ya1 yn1 yc1, .slice ya2 yn2 yc2] 25 (0, 0))) := (k6 V (Ne.symm (unhide HGN).1)).trans (unhide HV5)
        clear k6
        go_simp
        rw [← h6]
        clear h6 x0 x1 x2 x3 x4 f0 f1 f2 f3 f4
        refine hK.out _ _ (unhide HV6) (fun hHeld => ?_)
        clear hK K
        try simp only [Act.put, List.setIfInBounds_toArray, List.set_cons_zero, List.set_cons_succ]
        have HRES : Hid (DnR y g P base { m with st := 5, l := l0 ++ [{ o with is := o.is ++ [j] }] } (some ⟨L, 0, none⟩) lc vk vn vt va1 vn1 vc1 va2 vn2 vc2 ta tc ca cc w6) := by
         obtain ⟨k1, k3⟩ := (unhide H1y).pushI (l0 := l0) (o := o) (unhide HLO) rfl (a1 := a1) (d1 := e1) (a2 := a2) (d2 := e2) (xs := xs) (by rw [← unhide HI]; exact ⟨(unhide HQ).1, (unhide HQ).2.1, (unhide HQ).2.2.1, (unhide HQ).2.2.2.1, (unhide HQ).2.2.2.2.2⟩) (unhide HTy) (by rw [← unhide HNN]; exact unhide HJy) (by rw [← unhide HI]; exact unhide HT1) (by rw [← unhide HI]; exact unhide HT2) (unhide HEy) (unhide Hvy) (unhide HBu) (unhide HG) ((unhide HAT).imp id (fun e => ⟨by have := (unhide HBu).size; omega, by omega⟩)) (w6 := w6) (cap := cap) (by rw [← unhide HNN]; exact unhide HJ6) (unhide HK6) (Nat.le_of_eq (unhide HZ6).1.symm) (unhide HZ6).2 (by rw [← unhide HNN, ← unhide HI]; exact unhide HLO6) (by rw [← unhide HI, unhide HFL]; have := unhide HTI; omega)
         exact ⟨_, _, k1, k3.mono (fun t ht => by omega)⟩
        refine wpAnyH_done (by kernel_rfl) ?_ _
        go_wp2_with fail
        go_meet
        exact unhide HRES
  case rest =>
   obtain ⟨wx, rfl⟩ : ∃ z, z = wc := ⟨_, rfl⟩
   obtain ⟨g5, fs5, h5, K5⟩ := hcut
   have hel5 := h5.el i { o with is := o.is ++ [j] } (by show (l0 ++ [{ o with is := o.is ++ [j] }])[i]? = _; rw [unhide HI]; simp)
   obtain ⟨b1, d1, b2, d2, ys, q0, q1, q2, q3, q4, q5, hT5, hJ5, t1, t2, hE5⟩ := hel5
   dsimp only at q0 q1 q2 q3 q4 q5 hT5 hJ5 hE5
   have lo5 := h5.lo
   have hfl5 : fs5.length = T * 6 := by
    have := lo5.1
    rw [this]
    show (l0 ++ [{ o with is := o.is ++ [j] }]).length * 6 = _
    rw [mc_len (unhide HLO), unhide HT]
   have k0 : wx.cell? ⟨L, i * 6, none⟩ = some (.int .i64 o.k) := (owns_cell lo5 (i * 6) _ q0).1
   have KW : Kq w wx g g5 (· = 5) := (((unhide HKY).mono (fun t ht => by omega))).trans K5
   have HKW := hide KW
   by_cases hk5 : o.k = 5
   ·have hkb : (o.k == 5) = true := by simp [hk5]
    have HE2 : Hid (R = { m with st := 5, l := l0 ++ [{ o with is := o.is ++ [j], ns := o.ns ++ [o.nm] }] }) := by show _ = _; rw [unhide HE]; unfold addV; rw [if_pos hk5]
    obtain ⟨n1, hn1⟩ : ∃ n1, n1 = o.ns.length := ⟨_, rfl⟩
    have HN1 := hide hn1
    have H5 := hide h5
    have HLO5 := hide lo5
    have HFL5 := hide hfl5
    have HQ5 := hide (And.intro q0 (And.intro q1 (And.intro q2 (And.intro q3 (And.intro q4 q5)))))
    have HT5 := hide hT5
    have HJ5 := hide hJ5
    have HE5 := hide hE5
    have Ht1 := hide t1
    have Ht2 := hide t2
    have hBx : base ≤ wx.heap.size := Nat.le_trans (unhide HBSy) K5.size
    have HBX := hide hBx
    have hLx := (owns_lt lo5 L rfl).2
    have HLx := hide hLx
    have hnz : ∀ k, blk b1 = some k → k ≠ L := fun k hk e => by have := t1 k hk; have := h5.tl L rfl; rw [e] at *; omega
    have HNZ := hide hnz
    have hnB1 : o.ns.length ≤ 1000000 := by have := unhide HON; omega
    clear hk5 hn1 h5 lo5 hfl5 q0 q1 q2 q3 q4 q5 hT5 hJ5 hE5 t1 t2 hBx hLx hnz KW HE
    go_upto_region 7 with fail
    clear k0 hkb
    obtain ⟨D, hD⟩ : ∃ D, D = wx.drew := ⟨_, rfl⟩
    have HBD : Hid (Below wx.heap.size wx D) := by show Below _ _ _; rw [hD]; exact (Below.refl _ _).drew
    have HCr : Hid (∀ u, Below wx.heap.size wx u → u.cell? ⟨L, i * 6 + 3, none⟩ = some (.slice b1 n1 d1) ∧ u.cell? ⟨L, i * 6 + 5, none⟩ = some (.string (str o.nm))) := fun u hu => by
     have lou := owns_same (unhide HLO5) (fun k hk => hu.block k (owns_lt (unhide HLO5) k hk).2)
     have e3 := (owns_cell lou (i * 6 + 3) _ (unhide HQ5).2.2.2.1).1
     rw [← unhide HN1] at e3
     exact ⟨e3, (owns_cell lou (i * 6 + 5) _ (unhide HQ5).2.2.2.2.2).1⟩
    refine wp_region_held_drew (S := fun u => u.cell? ⟨L, i * 6 + 5, none⟩ = some (.string (str o.nm))) (by kernel_rfl) (by rw [← hD]; exact (unhide HCr D (unhide HBD)).2) (fun hHeld => ?_)
    rw [← hD] at hHeld ⊢
    clear hD
    refine wpAnyH_take (i := 0) (oi := ?_) (v := ?_) ?_ (by kernel_rfl) ?_ ?_ ?_ ?_ hHeld ?_
    rotate_left 2
    ·(simp only [List.getElem?_toArray, List.getElem?_cons_zero]) <;> with_reducible rfl
    ·kernel_rfl
    ·kernel_rfl
    ·exact fun _ _ _ h => h
    ·exact Or.inl ⟨by rfl, by (intro w hSw; (try dsimp only at hSw); skip; go_simp <;> with_reducible rfl)⟩
    simp only [Act.put, List.setIfInBounds_toArray, List.set_cons_zero, List.set_cons_succ]
    refine wpAnyH_take (i := 1) (oi := ?_) (v := ?_) ?_ (by kernel_rfl) ?_ ?_ ?_ ?_ hHeld ?_
    rotate_left 2
    ·(simp only [List.getElem?_toArray, List.getElem?_cons_succ, List.getElem?_cons_zero]) <;> with_reducible rfl
    ·kernel_rfl
    ·kernel_rfl
    ·exact fun _ _ _ h => h
    ·exact Or.inl ⟨by rfl, by (intro w hSw; (try dsimp only at hSw); skip; go_simp <;> with_reducible rfl)⟩
    simp only [Act.put, List.setIfInBounds_toArray, List.set_cons_zero, List.set_cons_succ]
    refine wpAnyH_take (i := 2) (oi := ?_) (v := ?_) ?_ (by kernel_rfl) ?_ ?_ ?_ ?_ hHeld ?_
    rotate_left 2
    ·(simp only [List.getElem?_toArray, List.getElem?_cons_succ, List.getElem?_cons_zero]) <;> with_reducible rfl
    ·kernel_rfl
    ·kernel_rfl
    ·exact fun _ _ _ h => h
    ·exact Or.inl ⟨by rfl, by (intro w hSw; (try dsimp only at hSw); skip; go_simp <;> with_reducible rfl)⟩
    simp only [Act.put, List.setIfInBounds_toArray, List.set_cons_zero, List.set_cons_succ]
    refine wpAnyH_take (i := 3) (oi := ?_) (v := ?_) ?_ (by kernel_rfl) ?_ ?_ ?_ ?_ hHeld ?_
    rotate_left 2
    ·(simp only [List.getElem?_toArray, List.getElem?_cons_succ, List.getElem?_cons_zero]) <;> with_reducible rfl
    ·kernel_rfl
    ·kernel_rfl
    ·exact fun _ _ _ h => h
    ·exact Or.inl ⟨by rfl, by (intro w hSw; (try dsimp only at hSw); skip; go_simp <;> with_reducible rfl)⟩
    simp only [Act.put, List.setIfInBounds_toArray, List.set_cons_zero, List.set_cons_succ]
    refine wpAnyH_take (i := 4) (oi := ?_) (v := ?_) ?_ (by kernel_rfl) ?_ ?_ ?_ ?_ hHeld ?_
    rotate_left 2
    ·(simp only [List.getElem?_toArray, List.getElem?_cons_succ, List.getElem?_cons_zero]) <;> with_reducible rfl
    ·kernel_rfl
    ·kernel_rfl
    ·exact fun _ _ _ h => h
    ·exact Or.inl ⟨by rfl, by (intro w hSw; (try dsimp only at hSw); skip; go_simp <;> with_reducible rfl)⟩
    simp only [Act.put, List.setIfInBounds_toArray, List.set_cons_zero, List.set_cons_succ]
    refine wpAnyH_take (i := 6) (oi := ?_) (v := ?_) ?_ (by kernel_rfl) ?_ ?_ ?_ ?_ hHeld ?_
    rotate_left 2
    ·(simp only [List.getElem?_toArray, List.getElem?_cons_succ, List.getElem?_cons_zero]) <;> with_reducible rfl
    ·kernel_rfl
    ·kernel_rfl
    ·exact fun _ _ _ h => h
    ·exact Or.inl ⟨by rfl, by (intro w hSw; (try dsimp only at hSw); skip; go_simp <;> with_reducible rfl)⟩
    simp only [Act.put, List.setIfInBounds_toArray, List.set_cons_zero, List.set_cons_succ]
    refine wpAnyH_take (i := 7) (oi := ?_) (v := ?_) ?_ (by kernel_rfl) ?_ ?_ ?_ ?_ hHeld ?_
    rotate_left 2
    ·(simp only [List.getElem?_toArray, List.getElem?_cons_succ, List.getElem?_cons_zero]) <;> with_reducible rfl
    ·kernel_rfl
    ·kernel_rfl
    ·exact fun _ _ _ h => h
    ·exact Or.inl ⟨by rfl, by (intro w hSw; (try dsimp only at hSw); skip; go_simp <;> with_reducible rfl)⟩
    simp only [Act.put, List.setIfInBounds_toArray, List.set_cons_zero, List.set_cons_succ]
    refine wpAnyH_take (i := 8) (oi := ?_) (v := ?_) ?_ (by kernel_rfl) ?_ ?_ ?_ ?_ hHeld ?_
    rotate_left 2
    ·(simp only [List.getElem?_toArray, List.getElem?_cons_succ, List.getElem?_cons_zero]) <;> with_reducible rfl
    ·kernel_rfl
    ·kernel_rfl
    ·exact fun _ _ _ h => h
    ·exact Or.inl ⟨by rfl, by (intro w hSw; (try dsimp only at hSw); skip; go_simp <;> with_reducible rfl)⟩
    simp only [Act.put, List.setIfInBounds_toArray, List.set_cons_zero, List.set_cons_succ]
    refine wpAnyH_take (i := 9) (oi := ?_) (v := ?_) ?_ (by kernel_rfl) ?_ ?_ ?_ ?_ hHeld ?_
    rotate_left 2
    ·(simp only [List.getElem?_toArray, List.getElem?_cons_succ, List.getElem?_cons_zero]) <;> with_reducible rfl
    ·kernel_rfl
    ·kernel_rfl
    ·exact fun _ _ _ h => h
    ·exact Or.inl ⟨by rfl, by (intro w hSw; (try dsimp only at hSw); skip; go_simp <;> with_reducible rfl)⟩
    simp only [Act.put, List.setIfInBounds_toArray, List.set_cons_zero, List.set_cons_succ]
    refine wpAnyH_ready (rs := [5, 10]) (by kernel_rfl) (by simp) ?rdm
    refine AllReadyH.cons (o := ?om5) ?hm5 (fun K hK => ?bm5) (AllReadyH.cons (o := ?om10) ?hm10 (fun K hK => ?bm10) AllReadyH.nil)
    case hm5 => (simp only [List.getElem?_toArray, List.getElem?_cons_succ, List.getElem?_cons_zero]) <;> with_reducible rfl
    case hm10 => (simp only [List.getElem?_toArray, List.getElem?_cons_succ, List.getElem?_cons_zero]) <;> with_reducible rfl
    case bm5 =>
     have c3 := (unhide HCr D (unhide HBD)).1
     go_simp
     clear c3
     refine hK.out _ _ (unhide HCr D (unhide HBD)).2 (fun hHeld => ?_)
     clear hK K
     try simp only [Act.put, List.setIfInBounds_toArray, List.set_cons_zero, List.set_cons_succ]
     refine wpAnyH_ready (rs := [10]) (by kernel_rfl) (by simp) ?rdn
     refine AllReadyH.cons (o := ?on10) ?hn10 (fun K hK => ?bn10) AllReadyH.nil
     case hn10 => (simp only [List.getElem?_toArray, List.getElem?_cons_succ, List.getElem?_cons_zero]) <;> with_reducible rfl
     case bn10 =>
      obtain ⟨u, hu⟩ : ∃ u, u = D.alloc (.cells #[.string (str o.nm)] 9) := ⟨_, rfl⟩
      obtain ⟨Z, hZ⟩ : ∃ Z, Z = D.heap.size := ⟨_, rfl⟩
      have HBu : Hid (Below wx.heap.size wx u) := by show Below _ _ _; rw [hu]; exact (unhide HBD).alloc (unhide HBD).size _
      have HZu : Hid (u.heap[Z]? = some (.cells #[.string (str o.nm)] 9 (0, 0))) := by show _ = _; rw [hu, hZ]; exact heap_alloc_new _ _
      go_simp
      rw [← hu, ← hZ]
      clear hu hZ
      refine hK.out _ _ (unhide HCr u (unhide HBu)).2 (fun hHeld => ?_)
      clear hK K
      try simp only [Act.put, List.setIfInBounds_toArray, List.set_cons_zero, List.set_cons_succ]
      refine wpAnyH_ready (rs := [11]) (by kernel_rfl) (by simp) ?rdot
      refine AllReadyH.cons (o := ?oot11) ?hot11 (fun K hK => ?bot11) AllReadyH.nil
      case hot11 => (simp only [List.getElem?_toArray, List.getElem?_cons_succ, List.getElem?_cons_zero]) <;> with_reducible rfl
      case bot11 =>
       refine stp_appT u rfl (.tmp 53) (.tmp 58) rfl base b1 d1 o.ns n1 (unhide HN1) rfl (owns_same (unhide HT5) (fun k hk => (unhide HBu).block k (owns_lt (unhide HT5) k hk).2)) Z _ o.nm rfl (unhide HZu) hnB1 (Nat.le_trans (unhide HBX) (unhide HBu).size) ?_
       intro G cap w2 HO HG HAT HGL
       have hGLn : G ≠ L := by
        rcases unhide HAT with q | q
        ·exact unhide HNZ G q
        ·have := (unhide HBu).size; have := unhide HLx; omega
       have HGN := hide hGLn
       have HL2 : Hid (w2.heap[L]? = wx.heap[L]?) := ((unhide HG).block L (Nat.lt_of_lt_of_le (unhide HLx) (unhide HBu).size) (fun e => unhide HNZ L e.symm rfl)).trans ((unhide HBu).block L (unhide HLx))
       have lo2 := owns_same (w' := w2) (unhide HLO5) (fun k hk => by have : L = k := (by simpa [blk] using hk); subst this; exact unhide HL2)
       have HLO2 := hide lo2
       obtain ⟨c3, cf3⟩ := owns_cell lo2 (i * 6 + 3) _ (unhide HQ5).2.2.2.1
       have s5 := (owns_cell lo2 (i * 6 + 5) _ (unhide HQ5).2.2.2.2.2).1
       clear lo2 hGLn
       refine hK.out _ _ s5 (fun hHeld => ?_)
       clear hK K s5
       try simp only [Act.put, List.setIfInBounds_toArray, List.set_cons_zero, List.set_cons_succ]
       refine wpAnyH_take (i := 12) (oi := ?_) (v := ?_) ?_ (by kernel_rfl) ?_ ?_ ?_ ?_ hHeld ?_
       rotate_left 2
       ·(simp only [List.getElem?_toArray, List.getElem?_cons_succ, List.getElem?_cons_zero]) <;> with_reducible rfl
       ·kernel_rfl
       ·kernel_rfl
       ·exact fun _ _ _ h => h
       ·exact Or.inl ⟨by rfl, by (intro w hSw; (try dsimp only at hSw); skip; go_simp <;> with_reducible rfl)⟩
       simp only [Act.put, List.setIfInBounds_toArray, List.set_cons_zero, List.set_cons_succ]
       refine wpAnyH_take (i := 13) (oi := ?_) (v := ?_) ?_ (by kernel_rfl) ?_ ?_ ?_ ?_ hHeld ?_
       rotate_left 2
       ·(simp only [List.getElem?_toArray, List.getElem?_cons_succ, List.getElem?_cons_zero]) <;> with_reducible rfl
       ·kernel_rfl
       ·kernel_rfl
       ·exact fun _ _ _ h => h
       ·exact Or.inl ⟨by rfl, by (intro w hSw; (try dsimp only at hSw); skip; go_simp <;> with_reducible rfl)⟩
       simp only [Act.put, List.setIfInBounds_toArray, List.set_cons_zero, List.set_cons_succ]
       refine wpAnyH_take (i := 14) (oi := ?_) (v := ?_) ?_ (by kernel_rfl) ?_ ?_ ?_ ?_ hHeld ?_
       rotate_left 2
       ·(simp only [List.getElem?_toArray, List.getElem?_cons_succ, List.getElem?_cons_zero]) <;> with_reducible rfl
       ·kernel_rfl
       ·kernel_rfl
       ·exact fun _ _ _ h => h
       ·exact Or.inl ⟨by rfl, by (intro w hSw; (try dsimp only at hSw); skip; go_simp <;> with_reducible rfl)⟩
       simp only [Act.put, List.setIfInBounds_toArray, List.set_cons_zero, List.set_cons_succ]
       refine wpAnyH_ready (rs := [15]) (by kernel_rfl) (by simp) ?rdou
       refine AllReadyH.cons (o := ?oou15) ?hou15 (fun K hK => ?bou15) AllReadyH.nil
       case hou15 => (simp only [List.getElem?_toArray, List.getElem?_cons_succ, List.getElem?_cons_zero]) <;> with_reducible rfl
       case bou15 =>
        obtain ⟨w6, h6⟩ : ∃ w6, w6 = w2.setCell ⟨L, i * 6 + 3, none⟩ (.slice (some ⟨G, 0, none⟩) (n1 + 1) cap) := ⟨_, rfl⟩
        have HK6 : Hid (∀ k, k ≠ L → w6.heap[k]? = w2.heap[k]?) := fun k n2 => by rw [h6]; exact Below.heap_setCell _ ⟨L, i * 6 + 3, none⟩ _ k n2
        have HT6 : Hid (OwnT w6 base (some ⟨G, 0, none⟩) cap (o.ns ++ [o.nm])) := owns_same (unhide HO) (fun k hk => unhide HK6 k (fun e => unhide HGN (by have : G = k := (by simpa [blk] using hk); omega)))
        have hlo6 := owns_set (unhide HLO2) (i * 6 + 3) (.slice (some ⟨G, 0, none⟩) (n1 + 1) cap) (by have h1 := unhide HFL5; have h2 := unhide HTI; omega)
        rw [← h6] at hlo6
        have s5 := (owns_cell hlo6 (i * 6 + 5) (.string (str o.nm)) (by rw [List.getElem?_set_ne (by omega)]; exact (unhide HQ5).2.2.2.2.2)).1
        have HLO6 := hide hlo6
        have HZ6 : Hid (w6.heap.size = w2.heap.size ∧ w6.os = w2.os ∧ w6.tape = w2.tape ∧ w6.output = w2.output) := by
         have mv := Mv.set w2 L (i * 6 + 3) (.slice (some ⟨G, 0, none⟩) (n1 + 1) cap)
         rw [← h6] at mv
         exact ⟨by rw [h6]; simp, mv.os, mv.tape, mv.output⟩
        have HF : Hid (Mq w g P base R (.returned (.tuple #[])) w6) := by
         obtain ⟨k1, k3⟩ := (unhide H5).pushN (l0 := l0) (o := { o with is := o.is ++ [j] }) rfl rfl (a1 := b1) (d1 := d1) (a2 := b2) (d2 := d2) (xs := ys) (by rw [← unhide HI]; exact ⟨(unhide HQ5).1, (unhide HQ5).2.1, (unhide HQ5).2.2.1, (unhide HQ5).2.2.2.2.1, (unhide HQ5).2.2.2.2.2⟩) (unhide HT5) (unhide HJ5) (by rw [← unhide HI]; exact unhide Ht1) (by rw [← unhide HI]; exact unhide Ht2) (unhide HE5) (unhide HBu) (unhide HG) ((unhide HAT).imp id (fun e => ⟨by have := (unhide HBu).size; omega, by omega⟩)) (w6 := w6) (cap := cap) (unhide HT6) (unhide HK6) (Nat.le_of_eq (unhide HZ6).1.symm) (unhide HZ6).2 (by show World.ownsRow _ _ _ _ _ _ (fs5.set (l0.length * 6 + 3) (.slice (some ⟨G, 0, none⟩) (o.ns.length + 1) cap)); rw [← unhide HN1, ← unhide HI]; exact unhide HLO6) (by rw [← unhide HI, unhide HFL5]; have := unhide HTI; omega)
         refine ⟨_, rfl, ?_, (unhide HKW).trans (k3.mono (fun t ht => by omega))⟩
         rw [unhide HE2]
         exact k1.mb
        go_simp
        rw [← h6]
        clear h6 c3 cf3 hlo6
        refine hK.out _ _ s5 (fun hHeld => ?_)
        clear hK K
        try simp only [Act.put, List.setIfInBounds_toArray, List.set_cons_zero, List.set_cons_succ]
        refine wpAnyH_done (by kernel_rfl) ?_ _
        go_wp2_with fail
        go_end0
        exact HF
    case bm10 =>
     obtain ⟨u, hu⟩ : ∃ u, u = D.alloc (.cells #[.string (str o.nm)] 9) := ⟨_, rfl⟩
     obtain ⟨Z, hZ⟩ : ∃ Z, Z = D.heap.size := ⟨_, rfl⟩
     have HBu : Hid (Below wx.heap.size wx u) := by show Below _ _ _; rw [hu]; exact (unhide HBD).alloc (unhide HBD).size _
     have HZu : Hid (u.heap[Z]? = some (.cells #[.string (str o.nm)] 9 (0, 0))) := by show _ = _; rw [hu, hZ]; exact heap_alloc_new _ _
     go_simp
     rw [← hu, ← hZ]
     clear hu hZ
     refine hK.out _ _ (unhide HCr u (unhide HBu)).2 (fun hHeld => ?_)
     clear hK K
     try simp only [Act.put, List.setIfInBounds_toArray, List.set_cons_zero, List.set_cons_succ]
     refine wpAnyH_ready (rs := [5]) (by kernel_rfl) (by simp) ?rdp
     refine AllReadyH.cons (o := ?op5) ?hp5 (fun K hK => ?bp5) AllReadyH.nil
     case hp5 => (simp only [List.getElem?_toArray, List.getElem?_cons_succ, List.getElem?_cons_zero]) <;> with_reducible rfl
     case bp5 =>
      have c3 := (unhide HCr u (unhide HBu)).1
      go_simp
      clear c3
      refine hK.out _ _ (unhide HCr u (unhide HBu)).2 (fun hHeld => ?_)
      clear hK K
      try simp only [Act.put, List.setIfInBounds_toArray, List.set_cons_zero, List.set_cons_succ]
      refine wpAnyH_ready (rs := [11]) (by kernel_rfl) (by simp) ?rdqt
      refine AllReadyH.cons (o := ?oqt11) ?hqt11 (fun K hK => ?bqt11) AllReadyH.nil
      case hqt11 => (simp only [List.getElem?_toArray, List.getElem?_cons_succ, List.getElem?_cons_zero]) <;> with_reducible rfl
      case bqt11 =>
       refine stp_appT u rfl (.tmp 53) (.tmp 58) rfl base b1 d1 o.ns n1 (unhide HN1) rfl (owns_same (unhide HT5) (fun k hk => (unhide HBu).block k (owns_lt (unhide HT5) k hk).2)) Z _ o.nm rfl (unhide HZu) hnB1 (Nat.le_trans (unhide HBX) (unhide HBu).size) ?_
       intro G cap w2 HO HG HAT HGL
       have hGLn : G ≠ L := by
        rcases unhide HAT with q | q
        ·exact unhide HNZ G q
        ·have := (unhide HBu).size; have := unhide HLx; omega
       have HGN := hide hGLn
       have HL2 : Hid (w2.heap[L]? = wx.heap[L]?) := ((unhide HG).block L (Nat.lt_of_lt_of_le (unhide HLx) (unhide HBu).size) (fun e => unhide HNZ L e.symm rfl)).trans ((unhide HBu).block L (unhide HLx))
       have lo2 := owns_same (w' := w2) (unhide HLO5) (fun k hk => by have : L = k := (by simpa [blk] using hk); subst this; exact unhide HL2)
       have HLO2 := hide lo2
       obtain ⟨c3, cf3⟩ := owns_cell lo2 (i * 6 + 3) _ (unhide HQ5).2.2.2.1
       have s5 := (owns_cell lo2 (i * 6 + 5) _ (unhide HQ5).2.2.2.2.2).1
       clear lo2 hGLn
       refine hK.out _ _ s5 (fun hHeld => ?_)
       clear hK K s5
       try simp only [Act.put, List.setIfInBounds_toArray, List.set_cons_zero, List.set_cons_succ]
       refine wpAnyH_take (i := 12) (oi := ?_) (v := ?_) ?_ (by kernel_rfl) ?_ ?_ ?_ ?_ hHeld ?_
       rotate_left 2
       ·(simp only [List.getElem?_toArray, List.getElem?_cons_succ, List.getElem?_cons_zero]) <;> with_reducible rfl
       ·kernel_rfl
       ·kernel_rfl
       ·exact fun _ _ _ h => h
       ·exact Or.inl ⟨by rfl, by (intro w hSw; (try dsimp only at hSw); skip; go_simp <;> with_reducible rfl)⟩
       simp only [Act.put, List.setIfInBounds_toArray, List.set_cons_zero, List.set_cons_succ]
       refine wpAnyH_take (i := 13) (oi := ?_) (v := ?_) ?_ (by kernel_rfl) ?_ ?_ ?_ ?_ hHeld ?_
       rotate_left 2
       ·(simp only [List.getElem?_toArray, List.getElem?_cons_succ, List.getElem?_cons_zero]) <;> with_reducible rfl
       ·kernel_rfl
       ·kernel_rfl
       ·exact fun _ _ _ h => h
       ·exact Or.inl ⟨by rfl, by (intro w hSw; (try dsimp only at hSw); skip; go_simp <;> with_reducible rfl)⟩
       simp only [Act.put, List.setIfInBounds_toArray, List.set_cons_zero, List.set_cons_succ]
       refine wpAnyH_take (i := 14) (oi := ?_) (v := ?_) ?_ (by kernel_rfl) ?_ ?_ ?_ ?_ hHeld ?_
       rotate_left 2
       ·(simp only [List.getElem?_toArray, List.getElem?_cons_succ, List.getElem?_cons_zero]) <;> with_reducible rfl
       ·kernel_rfl
       ·kernel_rfl
       ·exact fun _ _ _ h => h
       ·exact Or.inl ⟨by rfl, by (intro w hSw; (try dsimp only at hSw); skip; go_simp <;> with_reducible rfl)⟩
       simp only [Act.put, List.setIfInBounds_toArray, List.set_cons_zero, List.set_cons_succ]
       refine wpAnyH_ready (rs := [15]) (by kernel_rfl) (by simp) ?rdqu
       refine AllReadyH.cons (o := ?oqu15) ?hqu15 (fun K hK => ?bqu15) AllReadyH.nil
       case hqu15 => (simp only [List.getElem?_toArray, List.getElem?_cons_succ, List.getElem?_cons_zero]) <;> with_reducible rfl
       case bqu15 =>
        obtain ⟨w6, h6⟩ : ∃ w6, w6 = w2.setCell ⟨L, i * 6 + 3, none⟩ (.slice (some ⟨G, 0, none⟩) (n1 + 1) cap) := ⟨_, rfl⟩
        have HK6 : Hid (∀ k, k ≠ L → w6.heap[k]? = w2.heap[k]?) := fun k n2 => by rw [h6]; exact Below.heap_setCell _ ⟨L, i * 6 + 3, none⟩ _ k n2
        have HT6 : Hid (OwnT w6 base (some ⟨G, 0, none⟩) cap (o.ns ++ [o.nm])) := owns_same (unhide HO) (fun k hk => unhide HK6 k (fun e => unhide HGN (by have : G = k := (by simpa [blk] using hk); omega)))
        have hlo6 := owns_set (unhide HLO2) (i * 6 + 3) (.slice (some ⟨G, 0, none⟩) (n1 + 1) cap) (by have h1 := unhide HFL5; have h2 := unhide HTI; omega)
        rw [← h6] at hlo6
        have s5 := (owns_cell hlo6 (i * 6 + 5) (.string (str o.nm)) (by rw [List.getElem?_set_ne (by omega)]; exact (unhide HQ5).2.2.2.2.2)).1
        have HLO6 := hide hlo6
        have HZ6 : Hid (w6.heap.size = w2.heap.size ∧ w6.os = w2.os ∧ w6.tape = w2.tape ∧ w6.output = w2.output) := by
         have mv := Mv.set w2 L (i * 6 + 3) (.slice (some ⟨G, 0, none⟩) (n1 + 1) cap)
         rw [← h6] at mv
         exact ⟨by rw [h6]; simp, mv.os, mv.tape, mv.output⟩
        have HF : Hid (Mq w g P base R (.returned (.tuple #[])) w6) := by
         obtain ⟨k1, k3⟩ := (unhide H5).pushN (l0 := l0) (o := { o with is := o.is ++ [j] }) rfl rfl (a1 := b1) (d1 := d1) (a2 := b2) (d2 := d2) (xs := ys) (by rw [← unhide HI]; exact ⟨(unhide HQ5).1, (unhide HQ5).2.1, (unhide HQ5).2.2.1, (unhide HQ5).2.2.2.2.1, (unhide HQ5).2.2.2.2.2⟩) (unhide HT5) (unhide HJ5) (by rw [← unhide HI]; exact unhide Ht1) (by rw [← unhide HI]; exact unhide Ht2) (unhide HE5) (unhide HBu) (unhide HG) ((unhide HAT).imp id (fun e => ⟨by have := (unhide HBu).size; omega, by omega⟩)) (w6 := w6) (cap := cap) (unhide HT6) (unhide HK6) (Nat.le_of_eq (unhide HZ6).1.symm) (unhide HZ6).2 (by show World.ownsRow _ _ _ _ _ _ (fs5.set (l0.length * 6 + 3) (.slice (some ⟨G, 0, none⟩) (o.ns.length + 1) cap)); rw [← unhide HN1, ← unhide HI]; exact unhide HLO6) (by rw [← unhide HI, unhide HFL5]; have := unhide HTI; omega)
         refine ⟨_, rfl, ?_, (unhide HKW).trans (k3.mono (fun t ht => by omega))⟩
         rw [unhide HE2]
         exact k1.mb
        go_simp
        rw [← h6]
        clear h6 c3 cf3 hlo6
        refine hK.out _ _ s5 (fun hHeld => ?_)
        clear hK K
        try simp only [Act.put, List.setIfInBounds_toArray, List.set_cons_zero, List.set_cons_succ]
        refine wpAnyH_done (by kernel_rfl) ?_ _
        go_wp2_with fail
        go_end0
        exact HF
   ·have hkb : (o.k == 5) = false := by simpa using hk5
    have HF : Hid (Mq w g P base R (.returned (.tuple #[])) wx) := by
     refine ⟨g5, rfl, ?_, KW⟩
     rw [unhide HE]
     unfold addV
     rw [if_neg hk5]
     exact h5.mb
    clear hk5 h5 lo5 hfl5 q0 q1 q2 q3 q4 q5 hT5 hJ5 hE5 t1 t2 KW HE
    go_wp2_with fail
    go_end0
    exact HF
#print axioms rdone_any
end Go.Proofs.YtbnbngmnoffmkaaGreatDoor
end
section
set_option linter.unusedVariables false
set_option maxRecDepth 1000000
namespace Go.Proofs.YtbnbngmnoffmkaaGreatDoor
open Go.RowKit

theorem owns_take {w : World} {base : Nat} {ty : TypeId} {z : Nat} {a : Option Addr} {cap n : Nat} {xs : List Value} (h : w.ownsRow base ty z (.slice a n cap) n xs) {i : Nat} (hi : i ≤ n) (ha : a ≠ none) : w.ownsRow base ty z (.slice a i cap) i (xs.take (i * z)) := by
 rcases owns_cases h with ⟨h0, _⟩ | ⟨g, cur, rfl, hb, hg, hle, hm, hs, ht, hl⟩
 ·exact absurd h0 ha
 ·have hz : i * z ≤ n * z := Nat.mul_le_mul_right _ hi
  refine ⟨by rw [List.length_take, hl]; exact Nat.min_eq_left hz, .inr ⟨g, cap, cur, rfl, hb, hg, Nat.le_trans hi hle, hm, hs, ?_⟩⟩
  rw [← ht, List.take_take, Nat.min_eq_left hz]
/-- The tags when the i-th is finished. -/
def popG (g : Nat → Nat) (i : Nat) : Nat → Nat := fun k => if g k = 10 + 2 * i ∨ g k = 11 + 2 * i then 0 else g k
theorem popG_ne {g : Nat → Nat} {i k : Nat} (h1 : g k ≠ 10 + 2 * i) (h2 : g k ≠ 11 + 2 * i) : popG g i k = g k := by simp [popG, h1, h2]
section
variable {w : World} {g : Nat → Nat} {P base : Nat} {m : Mc} {la : Option Addr} {lc : Nat} {vk vn : Int} {vt : List UInt8} {va1 : Option Addr} {vn1 vc1 : Nat} {va2 : Option Addr} {vn2 vc2 : Nat} {ta : Option Addr} {tc : Nat} {ca : Option Addr} {cc : Nat} {fs : List Value}
/-- What was open is a value. -/
theorem op_jv {i : Nat} {o : Opn} {a1 : Option Addr} {d1 : Nat} {a2 : Option Addr} {d2 : Nat} {xs : List Value} (hT : OwnT w base a1 d1 o.ns) (hJ : OwnJ w base a2 d2 o.is.length xs) (t1 : ∀ k, blk a1 = some k → g k = 10 + 2 * i) (t2 : ∀ k, blk a2 = some k → g k = 11 + 2 * i) (hE : ∀ q j, o.is[q]? = some j → ∃ v, At5 xs q v ∧ JV w (Zt g w) v j) :
  JV w (Zt (popG g i) w) (.agg #[.int .i64 o.k, .int .i64 0, .string (str []), .slice a1 o.ns.length d1, .slice a2 o.is.length d2]) o.v := by
 have z1 : ∀ k, blk a1 = some k → Zt (popG g i) w k := fun k hk => ⟨by simp [popG, t1 k hk], (owns_lt hT k hk).2⟩
 have z2 : ∀ k, blk a2 = some k → Zt (popG g i) w k := fun k hk => ⟨by simp [popG, t2 k hk], (owns_lt hJ k hk).2⟩
 unfold Opn.v
 simp only [JV]
 obtain ⟨r1, r2, r3⟩ := owns_cap hT
 obtain ⟨j1, j2, j3⟩ := owns_cap hJ
 refine ⟨a1, d1, a2, d2, rfl, hT.nsf z1, r1, r2, r3, j1, j2, j3, (jvs_iff _ _ _ _ _).2 (fun q j hj => ?_)⟩
 obtain ⟨v, ⟨v0, v1, v2, v3, v4, rfl, q0, q1, q2, q3, q4⟩, hv⟩ := hE q j hj
 have hm := (List.getElem?_eq_some_iff.1 hj).1
 rcases owns_cases hJ with ⟨_, _, h3, _⟩ | ⟨G, cur, rfl, hb, hg, _⟩
 ·omega
 ·refine ⟨G, 0, v0, v1, v2, v3, v4, rfl, z2 G rfl, ?_, ?_, ?_, ?_, ?_, JV.keep (fun k hk => ⟨⟨by rw [popG_ne (by rw [hk.1]; omega) (by rw [hk.1]; omega)]; exact hk.1, hk.2⟩, rfl⟩) _ _ hv⟩
  ·rw [Nat.zero_add, Nat.zero_add]; exact (owns_cell hJ _ _ q0).1
  ·rw [Nat.zero_add, Nat.zero_add]; exact (owns_cell hJ _ _ q1).1
  ·rw [Nat.zero_add, Nat.zero_add]; exact (owns_cell hJ _ _ q2).1
  ·rw [Nat.zero_add, Nat.zero_add]; exact (owns_cell hJ _ _ q3).1
  ·rw [Nat.zero_add, Nat.zero_add]; exact (owns_cell hJ _ _ q4).1
/-- The machine without its last open one; only its own block is another one. -/
theorem MS.pop (h : MS w g P base m la lc vk vn vt va1 vn1 vc1 va2 vn2 vc2 ta tc ca cc fs) {l0 : List Opn} {o : Opn} (e : m.l = l0 ++ [o]) {w' : World} (mv : Mv w w' P)
  (row' : w'.heap[P]? = some (mcO { m with l := l0 } la lc vk vn vt va1 vn1 vc1 va2 vn2 vc2 ta tc ca cc)) :
  MS w' (popG g l0.length) P base { m with l := l0 } la lc vk vn vt va1 vn1 vc1 va2 vn2 vc2 ta tc ca cc (fs.take (l0.length * 6)) ∧ Kq w w' g (popG g l0.length) (fun t => t ≠ 1 ∧ t ≠ 10 + 2 * l0.length ∧ t ≠ 11 + 2 * l0.length) := by
 have K1 := Kq.ofMv mv h.tP
 have K : Kq w w' g (popG g l0.length) (fun t => t ≠ 1 ∧ t ≠ 10 + 2 * l0.length ∧ t ≠ 11 + 2 * l0.length) :=
  ⟨K1.os, K1.tape, K1.output, K1.size, fun k hk ht => ⟨popG_ne ht.2.1 ht.2.2, (K1.tag k hk ht.1).2⟩⟩
 have hlen : m.l.length = l0.length + 1 := by rw [e]; simp
 have hla : la ≠ none := by
  rcases owns_cases h.lo with ⟨_, _, h3, _⟩ | ⟨G, _, h3, _⟩
  ·omega
  ·rw [h3]; simp
 have hJ0 : JV w' (Zt (popG g l0.length) w') (.agg #[.int .i64 vk, .int .i64 vn, .string (str vt), .slice va1 vn1 vc1, .slice va2 vn2 vc2]) m.v := jv_kq K (by omega) h.jv
 refine ⟨⟨row', hJ0, ?_, fun i p hi => ?_, ?_, ?_, ?_, fun k hk => ?_, fun k hk => ?_, fun k hk => ?_, h.bP⟩, K⟩
 ·have lo' := owns_same h.lo (w' := w') (fun k hk => (K1.tag k (owns_lt h.lo k hk).2 (by rw [h.tl k hk]; omega)).2)
  exact owns_take (i := l0.length) lo' (show l0.length ≤ m.l.length by omega) hla
 ·have hi' : l0[i]? = some p := hi
  have hlt := (List.getElem?_eq_some_iff.1 hi').1
  have hel := h.el i p (by rw [e, List.getElem?_append_left hlt]; exact hi')
  exact op_same (op_kq K (by omega) ⟨by omega, by omega, by omega⟩ ⟨by omega, by omega, by omega⟩ hel) (fun r hr => by rw [List.getElem?_take, if_pos (by omega)])
 ·exact owns_same h.tx (fun k hk => (K.tag k (owns_lt h.tx k hk).2 (by rw [h.tt k hk]; omega)).2)
 ·exact owns_same h.ch (fun k hk => (K.tag k (owns_lt h.ch k hk).2 (by rw [h.th k hk]; omega)).2)
 ·rw [popG_ne (by rw [h.tP]; omega) (by rw [h.tP]; omega)]; exact h.tP
 ·rw [popG_ne (by rw [h.tl k hk]; omega) (by rw [h.tl k hk]; omega)]; exact h.tl k hk
 ·rw [popG_ne (by rw [h.tt k hk]; omega) (by rw [h.tt k hk]; omega)]; exact h.tt k hk
 ·rw [popG_ne (by rw [h.th k hk]; omega) (by rw [h.th k hk]; omega)]; exact h.th k hk
end
#print axioms op_jv
#print axioms MS.pop
end Go.Proofs.YtbnbngmnoffmkaaGreatDoor
end
