/-
  authtok: THE WALK of the statements' secrets.; authtok: THE WALK of the statements' secrets.; authtok: THE WALKS of slices.Clone and slices.Delete of secrets.; authtok: THE WALKS of slices.Clone and slices.Delete of secrets.; THE WALK of AuthtokBack.; THE WALK of AuthtokSecrets.; THE WALK of AuthtokSecrets.
-/
import Derived.Test.YthhcaalafacjlaaDoorPkAetsaw
import Derived.Deep.AppendLies
import Derived.Deep.RegionLaw
import Derived.Lib.SliceRun
section
set_option linter.unusedVariables false
set_option maxRecDepth 1000000
namespace Go.Proofs.YthhcaalafacjlaaDoor
open Go.RowKit

/-- A secret with where its bytes lie. -/
abbrev Se := Sec × Option Addr × Nat
def seC (t : Se) : List Value := [.int .i64 t.1.1, .slice t.2.1 t.1.2.length t.2.2]
def ses (l : List Se) : List Value := l.flatMap seC
theorem ses_length (l : List Se) : (ses l).length = l.length * 2 := by
  induction l with
  | nil => rfl
  | cons t r ih => simp [ses, seC] at ih ⊢; omega
theorem ses_append (l r : List Se) : ses (l ++ r) = ses l ++ ses r := by simp [ses]
theorem ses_one (l : List Se) : ∀ u ∈ ses l, u.oneCell' = true := by
  intro u hu
  obtain ⟨t, _, ht⟩ := List.mem_flatMap.1 hu
  simp [seC] at ht
  rcases ht with rfl | rfl <;> rfl
theorem ses_get : ∀ (l : List Se) (i j : Nat) (t : Se), l[i]? = some t → j < 2 → (ses l)[i * 2 + j]? = (seC t)[j]?
  | [], i, j, t, h, _ => by simp at h
  | u :: r, 0, j, t, h, hj => by
    simp at h
    subst h
    show (seC u ++ ses r)[0 * 2 + j]? = _
    rw [List.getElem?_append_left (by simp [seC]; omega)]
    simp
  | u :: r, i + 1, j, t, h, hj => by
    show (seC u ++ ses r)[(i + 1) * 2 + j]? = _
    have e : (i + 1) * 2 + j = (seC u).length + (i * 2 + j) := by simp [seC]; omega
    rw [e, List.getElem?_append_right (by omega), Nat.add_sub_cancel_left]
    exact ses_get r i j t (by simpa using h) hj
def OwnE (w : World) (base : Nat) (a : Option Addr) (cap : Nat) (l : List Se) : Prop := w.ownsRow base 42 2 (.slice a l.length cap) l.length (ses l)
theorem OwnE.cases {w : World} {base : Nat} {a : Option Addr} {cap : Nat} {l : List Se} (h : OwnE w base a cap l) :
    (a = none ∧ cap = 0 ∧ l = []) ∨ ∃ g cur, a = some ⟨g, 0, none⟩ ∧ base ≤ g ∧ w.heap[g]? = some (.cells cur 42 (0, 0)) ∧ l.length ≤ cap ∧ cap ≤ maxLen ∧ cur.size = cap * 2 ∧ cur.toList.take (l.length * 2) = ses l := by
  rcases h.2 with ⟨hv, hn⟩ | ⟨g, cap', cur, hv, hb, hg, hle, hm, hs, ht⟩
  · simp only [Value.slice.injEq] at hv
    exact .inl ⟨hv.1, hv.2.2, List.eq_nil_of_length_eq_zero hn⟩
  · simp only [Value.slice.injEq, true_and] at hv
    obtain ⟨rfl, rfl⟩ := hv
    exact .inr ⟨g, cur, rfl, hb, hg, hle, hm, hs, ht⟩
theorem OwnE.nil (w : World) (base : Nat) : OwnE w base none 0 [] := World.ownsRow_nil w base _ _
theorem OwnE.lt {w : World} {base : Nat} {a : Option Addr} {cap : Nat} {l : List Se} (h : OwnE w base a cap l) : ∀ k, blk a = some k → base ≤ k ∧ k < w.heap.size := by
  intro k hk
  rcases h.cases with ⟨rfl, rfl, rfl⟩ | ⟨g, cur, rfl, hb, hg, _⟩
  · simp [blk] at hk
  · simp [blk] at hk
    subst hk
    exact ⟨hb, (Array.getElem?_eq_some_iff.1 hg).1⟩
theorem OwnE.alloc {w : World} {base : Nat} {a : Option Addr} {cap : Nat} {l : List Se} (h : OwnE w base a cap l) (o : Obj) : OwnE (w.alloc o) base a cap l := World.ownsRow.alloc h o
theorem OwnE.below {w w' : World} {base B : Nat} {a : Option Addr} {cap : Nat} {l : List Se} (h : OwnE w base a cap l) (hb : Below B w w') (hB : w.heap.size ≤ B) : OwnE w' base a cap l := by
  refine ⟨h.1, ?_⟩
  rcases h.2 with hn | ⟨g, cap, cur, hv, hbb, hgg, rest⟩
  · exact .inl hn
  · refine .inr ⟨g, cap, cur, hv, hbb, ?_, rest⟩
    rw [hb.block g (by have := (Array.getElem?_eq_some_iff.1 hgg).1; omega)]
    exact hgg
/-- The bytes of the secrets lie in blocks of their own, apart from the row. -/
def Apt (w : World) (base : Nat) (a : Option Addr) (l : List Se) : Prop := ∀ t ∈ l, OwnB w base t.2.1 t.2.2 t.1.2 ∧ ∀ k, blk t.2.1 = some k → blk a ≠ some k
theorem Apt.below {w w' : World} {base B : Nat} {a : Option Addr} {l : List Se} (h : Apt w base a l) (hb : Below B w w') (hB : w.heap.size ≤ B) : Apt w' base a l := fun t ht => ⟨(h t ht).1.below hb hB, (h t ht).2⟩
theorem OwnE.secR {w : World} {base : Nat} {a : Option Addr} {cap : Nat} {l : List Se} (h : OwnE w base a cap l) (hA : Apt w base a l) (hi : ∀ t ∈ l, -9223372036854775808 ≤ t.1.1 ∧ t.1.1 ≤ 9223372036854775807) : SecR w a (l.map (·.1)) := by
  refine ⟨fun hne => ?_, fun s hs => ?_⟩
  · rcases h.cases with ⟨rfl, rfl, rfl⟩ | ⟨g, cur, rfl, hb, hg, hle, hm, hs, ht⟩
    · simp at hne
    · refine ⟨g, 0, rfl, fun i s hs' => ?_⟩
      rw [List.getElem?_map] at hs'
      obtain ⟨t, ht', rfl⟩ := Option.map_eq_some_iff.1 hs'
      have hlt := (List.getElem?_eq_some_iff.1 ht').1
      have key : ∀ j, j < 2 → w.cell? ⟨g, i * 2 + j, none⟩ = (seC t)[j]? := by
        intro j hj
        rw [cell_of_row w g (i * 2 + j) cur _ (0, 0) hg, ← ses_get l i j t ht' hj, ← ht, List.getElem?_take, if_pos (by omega)]
        simp
      have k0 := key 0 (by omega)
      have k1 := key 1 (by omega)
      refine ⟨t.2.1, t.2.2, ?_, ?_, (hA t (List.mem_of_getElem? ht')).1.toBs⟩
      · rw [Nat.zero_add]; exact k0
      · rw [Nat.zero_add]; exact k1
  · obtain ⟨t, ht, rfl⟩ := List.mem_map.1 hs
    exact hi t ht
theorem Tryd.infoE : (Tryd.prog.info? 42).map (fun i => (i.zero, i.size, i.bytes)) = some (some (.agg #[.int .i64 0, .slice none 0 0]), 2, 32) := by kernel_rfl
theorem news_se {w : World} {B : Nat} {t : Se} (h : w.heap[B]? = some (.cells (seC t).toArray 42 (0, 0))) : ∀ j u, (ses [t])[j]? = some u → w.cell? ((⟨B, 0, none⟩ : Addr).add j) = some u := by
  intro j u hu
  rw [addr_add, Nat.zero_add, cell_of_row w B j _ _ _ h]
  have : ses [t] = seC t := by simp [ses]
  rw [this] at hu
  simpa using hu
theorem ownBlk {a : Option Addr} {n cap : Nat} : (Value.slice a n cap).ownBlock = blk a := by cases a <;> rfl
/-- append(s, secret), as a step of a region that draws its order. -/
theorem stp_appe (w : World) {ops : Array Oper} {o : Oper} {a : Act} {K : Act → World → Prop} {Q : Exit → Act → World → Prop} {E : Prop} (hgd : o.guard = none) (s x : Operand)
    (ho : o.op = .call { callee := .builtin .append, args := #[s, x], argTypes := #[22, 22] })
    (base : Nat) (a1 : Option Addr) (cap1 : Nat) (l1 : List Se) (n1 : Nat) (hs : a.eval s = .slice a1 n1 cap1) (hn1 : n1 = l1.length) (hown : OwnE w base a1 cap1 l1)
    (B c2 : Nat) (t : Se) (hx : a.eval x = .slice (some ⟨B, 0, none⟩) 1 c2) (hsrc : w.heap[B]? = some (.cells (seC t).toArray 42 (0, 0))) (hlen : l1.length ≤ 1000000) (hbase : base ≤ w.heap.size)
    (h : ∀ g cap w', Hid (OwnE w' base (some ⟨g, 0, none⟩) cap (l1 ++ [t])) → Hid (w.grownBy w' (blk a1)) → Hid (blk a1 = some g ∨ g = w.heap.size) → K (a.put o.dst (.slice (some ⟨g, 0, none⟩) (n1 + 1) cap)) w') :
    if Region.wanted o (yielded ops a.tmps) = true then Oper.wp Tryd.prog o a w K Q else E := by
  subst hn1
  obtain ⟨i, hi, hz0, hz1, hz2⟩ := info_parts Tryd.infoE
  refine step_append_lies w hgd s x 22 ho base 42 i _ 2 32 Tryd.underlying22 hi hz0 hz1 hz2 rfl (by decide) _ _ _ hs hown ⟨B, 0, none⟩ 1 c2 (ses [t]) hx (by rw [ses_length]; simp) (news_se hsrc) (ses_one [t]) (by decide) (by unfold maxLen; omega) (by omega) hbase _ rfl ?_
  intro g cap w' h1 h2 h3 h4
  rw [ownBlk] at h2 h3
  refine h g cap w' ?_ h2 h3
  have e1 : l1.length + 1 = (l1 ++ [t]).length := by simp
  show OwnE _ _ _ _ _
  unfold OwnE
  rw [← e1, ses_append]
  exact h1
#print axioms stp_appe
end Go.Proofs.YthhcaalafacjlaaDoor
end
section
set_option linter.unusedVariables false
set_option maxRecDepth 1000000
namespace Go.Proofs.YthhcaalafacjlaaDoor
open Go.RowKit

/-- The row one secret longer. -/
theorem apt_snoc {v w2 w5 : World} {base : Nat} {a : Option Addr} {cap : Nat} {l : List Se} (hO : OwnE v base a cap l) (hA : Apt v base a l) (hb : Below v.heap.size v w2) (o : Obj)
    {s : Sec} {y : Option Addr} {cy : Nat} (hy : OwnB w2 v.heap.size y cy s.2) {g cap' : Nat} (hg : (w2.alloc o).grownBy w5 (blk a)) (hl : blk a = some g ∨ g = (w2.alloc o).heap.size) (hbs : base ≤ v.heap.size) :
    Apt w5 base (some ⟨g, 0, none⟩) (l ++ [(s, y, cy)]) := by
  have hal : ∀ k, blk a = some k → k < v.heap.size := fun k hk => (hO.lt k hk).2
  have hs2 := hb.size
  have hsz : (w2.alloc o).heap.size = w2.heap.size + 1 := by simp
  intro t ht
  rcases List.mem_append.1 ht with ht | ht
  · obtain ⟨h1, h2⟩ := hA t ht
    have h3 : OwnB (w2.alloc o) base t.2.1 t.2.2 t.1.2 := (h1.below hb (Nat.le_refl _)).alloc o
    have hne : blk t.2.1 = none ∨ blk t.2.1 ≠ blk a := by
      cases hk : blk t.2.1 with
      | none => exact .inl rfl
      | some k => exact .inr (fun e => h2 k hk e.symm)
    refine ⟨h3.kept hg hne, fun k hk e => ?_⟩
    obtain rfl : g = k := by simpa [blk] using e
    rcases hl with hl | hl
    · exact h2 g hk hl
    · have := (h1.lt g hk).2
      omega
  · obtain rfl := List.mem_singleton.1 ht
    have h3 : OwnB (w2.alloc o) v.heap.size y cy s.2 := hy.alloc o
    have hne : blk y = none ∨ blk y ≠ blk a := by
      cases hk : blk y with
      | none => exact .inl rfl
      | some k =>
        right
        intro e
        have := hal k e.symm
        have := (hy.lt k hk).1
        omega
    refine ⟨(h3.kept hg hne).base hbs, fun k hk e => ?_⟩
    obtain rfl : g = k := by simpa [blk] using e
    rcases hl with hl | hl
    · have := hal g hl
      have := (hy.lt g hk).1
      omega
    · have := (hy.lt g hk).2
      omega

set_option maxHeartbeats 8000000 in
theorem secrets_any (p : Option Addr) (cp : Nat) (L : List Sec) (w : World) (h : SecR w p L) (hl : L.length ≤ maxLen) :
    Calls Tryd.prog 6 #[.slice p L.length cp] w fun e w' => Hid (Below w.heap.size w w') ∧ (e = .returned (.tuple #[.slice none 0 0, .bool false]) ∨ ∃ a cap, e = .returned (.tuple #[.slice a L.length cap, .bool true]) ∧ Hid (SecR w' a L) ∧ L.length ≤ cap ∧ cap ≤ maxLen ∧ L.length ≤ 21) := by
  have HS := hide h
  clear h
  go_enter Tryd.func6, Tryd.ntmps6
  go_wp2
  go_loopw [4, 9] (fun vo v wr => ∃ (i : Nat) (a : Option Addr) (cap : Nat) (r : List Se), i ≤ L.length ∧ i ≤ 21 ∧ v = .int .i64 (i : Int) ∧ vo = .slice a i cap ∧ Hid (i = r.length) ∧ Hid (r.map (·.1) = L.take i) ∧ Hid (OwnE wr w.heap.size a cap r) ∧ Hid (Apt wr w.heap.size a r) ∧ Hid (Below w.heap.size w wr)) (fun _ v _ => L.length - (intOf v).toNat)
  case atStart => exact ⟨0, none, 0, [], Nat.zero_le _, by omega, rfl, rfl, rfl, rfl, OwnE.nil _ _, (fun t ht => by cases ht), Below.refl _ _⟩
  case round =>
    obtain ⟨i, a, cap, r, hi, hi21, rfl, rfl, hr, hrm, hO, hA, hb⟩ := hrel
    by_cases hlt : i < L.length
    · obtain ⟨s, hs⟩ : ∃ s, L[i]? = some s := ⟨_, List.getElem?_eq_getElem hlt⟩
      obtain ⟨b, off, x, cx, rfl, k0, k1, hB, hbl⟩ := (HS.out.below hb.out (Nat.le_refl _)).at hs
      have hbm := Nat.le_trans hB.le hB.most
      unfold maxLen at hbm
      have HSS := hide hs
      have HBB := hide hB
      obtain ⟨id, bt⟩ := s
      simp only at k0 k1 hbm
      have hi2 : (i : Int) < (L.length : Int) := by omega
      clear hs hB
      by_cases q1 : 20 < i
      · have d1 : decide ((20 : Int) < (i : Int)) = true := decide_eq_true (by omega)
        go_wp2
        go_ret2
        exact ⟨hb.out.alloc hb.out.size _, .inl rfl⟩
      have d1 : decide ((20 : Int) < (i : Int)) = false := decide_eq_false (by omega)
      by_cases q2 : 65536 < bt.length
      · have d2 : decide ((65536 : Int) < (bt.length : Int)) = true := decide_eq_true (by omega)
        go_wp2
        go_ret2
        exact ⟨hb.out.alloc hb.out.size _, .inl rfl⟩
      have d2 : decide ((65536 : Int) < (bt.length : Int)) = false := decide_eq_false (by omega)
      go_wp2
      have HZ : Hid ((wr.alloc (.cells #[.int .i64 id, .slice x bt.length cx] 42)).cell? ⟨wr.heap.size, 0, none⟩ = some (.int .i64 id) ∧ (wr.alloc (.cells #[.int .i64 id, .slice x bt.length cx] 42)).cell? ⟨wr.heap.size, 1, none⟩ = some (.slice x bt.length cx)) := by constructor <;> simp
      have HBv : Hid (Below w.heap.size w (wr.alloc (.cells #[.int .i64 id, .slice x bt.length cx] 42))) := hb.out.alloc hb.out.size _
      have HBx : Hid (Below wr.heap.size wr (wr.alloc (.cells #[.int .i64 id, .slice x bt.length cx] 42))) := (Below.refl _ _).alloc (Nat.le_refl _) _
      have HOv := hide (hO.out.below HBx.out (Nat.le_refl _))
      have HAv := hide (hA.out.below HBx.out (Nat.le_refl _))
      have HBs := hide (HBB.out.below HBx.out (Nat.le_refl _))
      clear HBx hO hA hb k0 k1 HBB hbl
      generalize wr.alloc (.cells #[.int .i64 id, .slice x bt.length cx] 42) = v at *
      generalize wr.heap.size = Z at *
      obtain ⟨z0, z1⟩ := HZ.out
      have hZ : Z < v.heap.size := World.block_lt_of_cell? v _ z0
      have hwv := HBv.out.size
      have HBd : Hid (Bs v.drew x cx bt) := HBs.out.below (Below.refl _ _).drew (Nat.le_refl _)
      have hr20 : r.length ≤ 21 := by rw [← hr.out]; exact hi21
      go_region_law (first
        | (refine stp_appe _ rfl _ _ rfl w.heap.size a cap r i rfl hr.out (HO2.out.alloc _) w2.heap.size 1 ((id, bt), y, cy) rfl (heap_alloc_new w2 _) (by omega) (by simp; omega) ?_; intro g5 c5 w5 ho5 hg5 hl5)
        | (go_simp; go_at_call 19; refine (sclone_big x bt.length cx bt _ HBd.out rfl (by omega)).mono ?_; rintro e w2 ⟨y, cy, r2, rfl, hr2, ho2, hb2⟩; obtain rfl : bt = r2 := hr2.out.symm; have HY := hide ho2; have HB2 : Hid (Below v.heap.size v w2) := Below.trans ((Below.refl _ _).drew) hb2; have HO2 := hide (HOv.out.below HB2.out (Nat.le_refl _)); have z02 : w2.cell? ⟨Z, 0, none⟩ = some (.int .i64 id) := (HB2.out.cell hZ).trans z0; have hs2 := HB2.out.size; clear ho2 hb2 hr2))
      all_goals
        have HA5 := hide (apt_snoc (cap' := c5) (s := (id, bt)) HOv.out HAv.out HB2.out _ HY.out hg5.out hl5.out hwv)
        have HB5 : Hid (Below w.heap.size w w5) := ((HBv.out.trans (HB2.out.mono hwv)).alloc (by have := HB2.out.size; omega) _).grown hg5.out (by simp; omega) (fun k hk => (HO2.out.lt k hk).1)
        have HR5 : Hid ((r ++ [((id, bt), y, cy)]).map (·.1) = L.take (i + 1)) := by show _ = _; rw [List.map_append, hrm.out, List.take_add_one, HSS.out]; rfl
        have HL5 : Hid (i + 1 = (r ++ [((id, bt), y, cy)]).length) := by show _ = _; rw [List.length_append, ← hr.out]; rfl
        clear hg5 hl5 HY HO2 HB2 HAv HOv HBv HBs HBd z0 z1 HSS hrm hr
        go_wp2
        go_roundw
        case rel => exact ⟨i + 1, some ⟨g5, 0, none⟩, c5, r ++ [((id, bt), y, cy)], by omega, by omega, by go_num, rfl, HL5, HR5, ho5, HA5, HB5⟩
        case measure => simp [intOf]; omega
    · obtain rfl : i = L.length := by omega
      rw [List.take_length] at hrm
      have HR : Hid (SecR wr a L) := by
        have := hO.out.secR hA.out (fun t ht => HS.out.int t.1 (by rw [← hrm.out]; exact List.mem_map_of_mem ht))
        rw [hrm.out] at this
        exact this
      have hcap : L.length ≤ cap ∧ cap ≤ maxLen := by
        rcases hO.out.cases with ⟨_, h2, h3⟩ | ⟨_, _, _, _, _, h4, h5, _⟩
        · rw [hr.out, h3, h2]; exact ⟨Nat.le_refl _, by unfold maxLen; omega⟩
        · rw [hr.out]; exact ⟨h4, h5⟩
      have HCP := hide hcap
      clear hcap
      go_wp2
      go_ret2
      exact ⟨hb, .inr ⟨a, cap, rfl, HR, HCP.out.1, HCP.out.2, hi21⟩⟩
#print axioms secrets_any
end Go.Proofs.YthhcaalafacjlaaDoor
end
section
set_option linter.unusedVariables false
set_option maxRecDepth 1000000
namespace Go.Proofs.YthhcaalafacjlaaDoor
open Go.RowKit

/-- The secrets of a row with where their bytes lie. -/
theorem SecR.list {w : World} {b off : Nat} {L : List Sec} (h : SecR w (some ⟨b, off, none⟩) L) : ∃ l : List Se, l.map (·.1) = L ∧ (∀ j u, (ses l)[j]? = some u → w.cell? ⟨b, off + j, none⟩ = some u) ∧ ∀ t ∈ l, Bs w t.2.1 t.2.2 t.1.2 := by
  have each : ∀ i, ∃ t : Se, ∀ s, L[i]? = some s → t.1 = s ∧ w.cell? ⟨b, off + i * 2, none⟩ = some (.int .i64 s.1) ∧ w.cell? ⟨b, off + i * 2 + 1, none⟩ = some (.slice t.2.1 s.2.length t.2.2) ∧ Bs w t.2.1 t.2.2 s.2 := by
    intro i
    cases hs : L[i]? with
    | none => exact ⟨((0, []), none, 0), fun s h => by cases h⟩
    | some s =>
      obtain ⟨b', off', x, c, e, h1, h2, h3, _⟩ := h.at hs
      obtain ⟨rfl, rfl⟩ : b = b' ∧ off = off' := by simpa using e
      exact ⟨(s, x, c), fun s' h' => by rw [← Option.some.inj h']; exact ⟨rfl, h1, h2, h3⟩⟩
  obtain ⟨f, hf⟩ : ∃ f : Nat → Se, ∀ i s, L[i]? = some s → (f i).1 = s ∧ w.cell? ⟨b, off + i * 2, none⟩ = some (.int .i64 s.1) ∧ w.cell? ⟨b, off + i * 2 + 1, none⟩ = some (.slice (f i).2.1 s.2.length (f i).2.2) ∧ Bs w (f i).2.1 (f i).2.2 s.2 :=
    ⟨fun i => (each i).choose, fun i => (each i).choose_spec⟩
  have hget : ∀ (i : Nat) (t : Se), ((List.range L.length).map f)[i]? = some t → i < L.length ∧ f i = t := by
    intro i t ht
    have hi : i < L.length := by
      have := (List.getElem?_eq_some_iff.1 ht).1
      simpa using this
    exact ⟨hi, by simpa [hi] using ht⟩
  refine ⟨(List.range L.length).map f, ?_, ?_, ?_⟩
  · apply List.ext_getElem?
    intro i
    by_cases hi : i < L.length
    · rw [List.getElem?_map, List.getElem?_map, List.getElem?_range hi, List.getElem?_eq_getElem hi]
      simp only [Option.map_some]
      rw [(hf i _ (List.getElem?_eq_getElem hi)).1]
    · rw [List.getElem?_eq_none (by simp; omega), List.getElem?_eq_none (by omega)]
  · intro j u hu
    have hlen : j < L.length * 2 := by
      have := (List.getElem?_eq_some_iff.1 hu).1
      rw [ses_length] at this
      simpa using this
    have hi : j / 2 < L.length := by omega
    have ht : ((List.range L.length).map f)[j / 2]? = some (f (j / 2)) := by simp [hi]
    have hc := hf (j / 2) _ (List.getElem?_eq_getElem hi)
    have hj : j = j / 2 * 2 + j % 2 := by omega
    rw [hj, ses_get _ (j / 2) (j % 2) _ ht (by omega)] at hu
    rcases Nat.mod_two_eq_zero_or_one j with h0 | h0
    · rw [h0] at hu hj
      have : u = .int .i64 (f (j / 2)).1.1 := by simpa [seC] using hu.symm
      rw [this, hc.1, show (⟨b, off + j, none⟩ : Addr) = ⟨b, off + j / 2 * 2, none⟩ by congr 1; omega]
      exact hc.2.1
    · rw [h0] at hu hj
      have : u = .slice (f (j / 2)).2.1 (f (j / 2)).1.2.length (f (j / 2)).2.2 := by simpa [seC] using hu.symm
      rw [this, hc.1, show (⟨b, off + j, none⟩ : Addr) = ⟨b, off + j / 2 * 2 + 1, none⟩ by congr 1; omega]
      exact hc.2.2.1
  · intro t ht
    obtain ⟨i, hi⟩ := List.getElem?_of_mem ht
    obtain ⟨h1, rfl⟩ := hget i t hi
    have := hf i _ (List.getElem?_eq_getElem h1)
    rw [this.1]
    exact this.2.2.2

/-- append(s, x...) of secrets, s the call's own. -/
theorem wp_appe (w : World) {ops : Array Oper} {rest : List Oper} {o : Oper} {a : Act} {Q : Exit → Act → World → Prop} (hgd : o.guard = none) (s x : Operand)
    (ho : o.op = .call { callee := .builtin .append, args := #[s, x], argTypes := #[22, 22] })
    (base : Nat) (a1 : Option Addr) (cap1 : Nat) (l1 : List Se) (hs : a.eval s = .slice a1 l1.length cap1) (hown : OwnE w base a1 cap1 l1)
    (b off c2 n2 : Nat) (l2 : List Se) (hx : a.eval x = .slice (some ⟨b, off, none⟩) n2 c2) (hn2 : n2 = l2.length) (hsrc : ∀ j u, (ses l2)[j]? = some u → w.cell? ⟨b, off + j, none⟩ = some u) (hpos : 0 < l2.length) (hlen : l1.length + l2.length ≤ 1000000) (hbase : base ≤ w.heap.size)
    (h : ∀ g cap w', Hid (OwnE w' base (some ⟨g, 0, none⟩) cap (l1 ++ l2)) → Hid (w.grownBy w' (blk a1)) → Hid (blk a1 = some g ∨ g = w.heap.size) → wpList Tryd.prog ops Q rest (a.put o.dst (.slice (some ⟨g, 0, none⟩) (l1.length + n2) cap)) w') : wpList Tryd.prog ops Q (o :: rest) a w := by
  subst hn2
  obtain ⟨i, hi, hz0, hz1, hz2⟩ := info_parts Tryd.infoE
  refine wpList_append_lies w hgd s x 22 ho base 42 i _ 2 32 Tryd.underlying22 hi hz0 hz1 hz2 rfl (by decide) _ _ _ hs hown ⟨b, off, none⟩ l2.length c2 (ses l2) hx (by rw [ses_length]) (fun j u hu => by rw [addr_add]; exact hsrc j u hu) (ses_one l2) hpos (by unfold maxLen; omega) (by omega) hbase _ rfl ?_
  intro g cap w' h1 h2 h3 h4
  rw [ownBlk] at h2 h3
  refine h g cap w' ?_ h2 h3
  have e1 : l1.length + l2.length = (l1 ++ l2).length := by simp
  show OwnE _ _ _ _ _
  unfold OwnE
  rw [← e1, ses_append]
  exact h1
#print axioms wp_appe
end Go.Proofs.YthhcaalafacjlaaDoor
end
section
set_option linter.unusedVariables false
set_option maxRecDepth 1000000
namespace Go.Proofs.YthhcaalafacjlaaDoor
open Go.RowKit

theorem ownE_empty (w : World) (base : Nat) (hb : base ≤ w.heap.size) : OwnE (w.alloc (.cells #[] 42)) base (some ⟨w.heap.size, 0, none⟩) 0 [] :=
  World.ownsRow_made w #[] 0 hb (by unfold maxLen; omega) rfl
theorem eql_nilS (w : World) (a : Option Addr) (n c : Nat) : True := trivial

set_option maxHeartbeats 2000000 in
theorem cloneS_any (b off cp : Nat) (l : List Se) (w : World) (hsrc : ∀ j u, (ses l)[j]? = some u → w.cell? ⟨b, off + j, none⟩ = some u) (hpos : 0 < l.length) (hl : l.length ≤ 100) :
    Calls Tryd.prog 18 #[.slice (some ⟨b, off, none⟩) l.length cp] w fun e w' => ∃ g cap, e = .returned (.slice (some ⟨g, 0, none⟩) l.length cap) ∧ Hid (OwnE w' w.heap.size (some ⟨g, 0, none⟩) cap l) ∧ Hid (Below w.heap.size w w') := by
  have hq := fun (wx : World) (a : Option Addr) (n c : Nat) => Lib.run_eql_slice_nil (P := Tryd.prog) wx 22 42 a n c 0 0 Tryd.underlying22
  have HSR : Hid (∀ o j u, (ses l)[j]? = some u → (w.alloc o).cell? ⟨b, off + j, none⟩ = some u) := fun o j u hu => Lib.cell?_alloc_some o (hsrc j u hu)
  clear hsrc
  go_enter Tryd.func18, Tryd.ntmps18
  go_wp2_with (at_builtin; refine wp_appe _ rfl _ _ rfl w.heap.size (some ⟨w.heap.size, 0, none⟩) 0 [] rfl (ownE_empty w _ (Nat.le_refl _)) b off cp _ l rfl rfl (HSR.out _) hpos ?k1 ?k2 ?_)
  case k1 => simp; omega
  case k2 => simp
  intro g cap w2 ho hg hlies
  have HB : Hid (Below w.heap.size w w2) := ((Below.refl _ _).alloc (Nat.le_refl _) _).grown hg.out (by simp) (fun k hk => Nat.le_of_eq (by simpa [blk] using hk))
  clear hg hlies
  go_wp2
  go_ret
  exact ⟨g, cap, by simp, ho, HB⟩

theorem Tryd.zeroS (w : World) : (zeroValue 42).run Tryd.prog w = .ok (.agg #[.int .i64 0, .slice none 0 0]) w := by kernel_rfl
theorem clear_one (w : World) (ty : TypeId) (b o c : Nat) (hc : ∀ j, j < 2 → (w.cell? ⟨b, o + j, none⟩).isSome = true) (hf : ∀ j, j < 2 → w.frozen? ⟨b, o + j, none⟩ = false) :
    (Builtin.clear_ #[22] ty #[.slice (some ⟨b, o, none⟩) 1 c]).run Tryd.prog w = .ok (.tuple #[]) (w.setCells b o [.int .i64 0, .slice none 0 0]) := by
  have hzc : (Builtin.zeroCells (Value.agg #[.int .i64 0, .slice none 0 0]).cells 1).toList = [.int .i64 0, .slice none 0 0] := by kernel_rfl
  have hst := run_storeCells_cells (P := Tryd.prog) b o [.int .i64 0, .slice none 0 0] 0 w (by simpa using hc) (by simpa using hf) (by intro v hv'; simp at hv'; rcases hv' with rfl | rfl <;> rfl)
  simp only [Nat.add_zero] at hst
  simp [Builtin.clear_, run_underlying Tryd.underlying22, hzc, hst]
theorem setCells_grown (b : Nat) : ∀ (vs : List Value) (o : Nat) (w : World), w.grownBy (w.setCells b o vs) (some b)
  | [], _, w => ⟨rfl, rfl, rfl, Nat.le_refl _, fun _ _ _ => rfl⟩
  | v :: r, o, w => by
    rw [World.setCells]
    exact grownBy_trans (grownBy_set w ⟨b, o, none⟩ v) (setCells_grown b r (o + 1) _)
theorem cutS_tail (g N cap E : Nat) (h1 : E ≤ N) : ∃ A : Addr, (∀ w, (Instr.slice 22 (.slice (some ⟨g, 0, none⟩) N cap) (some (.int .i64 (E : Int))) none none).run Tryd.prog w = .ok (.slice (some A) (N - E) (cap - E)) w) ∧ (¬ cap = E → A = ⟨g, E * 2, none⟩) := by
  refine ⟨if cap = E then ⟨g, 0, none⟩ else ⟨g, E * 2, none⟩, fun w => ?_, fun h => if_neg h⟩
  rw [run_slice_l (P := Tryd.prog) w 22 _ N cap Tryd.elemS .i64 (E : Int) (by omega) (by omega), Tryd.sizeS]
  simp only [Result.andThen, sliced, Int.toNat_natCast]
  by_cases h : cap = E
  · simp [h]
  · simp [h, addr_add]
theorem cutS_mid (g N cap E H : Nat) (h1 : E ≤ H) (h2 : H ≤ cap) (h3 : ¬ cap = E) (w : World) : (Instr.slice 22 (.slice (some ⟨g, 0, none⟩) N cap) (some (.int .i64 (E : Int))) (some (.int .i64 (H : Int))) none).run Tryd.prog w = .ok (.slice (some ⟨g, E * 2, none⟩) (H - E) (cap - E)) w := by
  rw [run_slice_lh (P := Tryd.prog) w 22 _ N cap Tryd.elemS .i64 .i64 (E : Int) (H : Int) (by omega) (by omega) (by omega), Tryd.sizeS]
  simp only [Result.andThen, sliced, Int.toNat_natCast, if_neg h3, Option.map_some, addr_add, Nat.zero_add]

set_option maxHeartbeats 8000000 in
theorem deleteS_any (g cap : Nat) (l : List Se) (i base : Nat) (w : World) (h : OwnE w base (some ⟨g, 0, none⟩) cap l) (hi : i < l.length) (hl : l.length ≤ 100) :
    Calls Tryd.prog 17 #[.slice (some ⟨g, 0, none⟩) l.length cap, .int .i64 (i : Int), .int .i64 ((i : Int) + 1)] w fun e w' => e = .returned (.slice (some ⟨g, 0, none⟩) (l.length - 1) cap) ∧ Hid (w.grownBy w' (some g)) ∧ Hid (∀ j u, (ses (l.eraseIdx i))[j]? = some u → w'.cell? ⟨g, j, none⟩ = some u) := by
  rcases h.cases with ⟨h1, _⟩ | ⟨g', cur, e, hb, hg, hle, hm, hs, ht⟩
  · cases h1
  obtain rfl : g = g' := by simpa using e
  unfold maxLen at hm
  obtain ⟨N, hN⟩ : ∃ N, l.length = N + 1 := ⟨l.length - 1, by omega⟩
  have hcell : ∀ j, j < l.length * 2 → w.cell? ⟨g, j, none⟩ = (ses l)[j]? := by
    intro j hj
    rw [cell_of_row w g j cur _ (0, 0) hg, ← ht, List.getElem?_take, if_pos hj]
    simp
  have hfz : ∀ j, w.frozen? ⟨g, j, none⟩ = false := fun j => frozen_of_row w g j _ _ hg
  have hsl : (ses l).length = l.length * 2 := ses_length l
  obtain ⟨news, hnews⟩ : ∃ news, news = ses (l.drop (i + 1)) := ⟨_, rfl⟩
  have hnl : news.length = (N - i) * 2 := by rw [hnews, ses_length, List.length_drop]; omega
  have hng : ∀ j, j < news.length → news[j]? = (ses l)[(i + 1) * 2 + j]? := by
    intro j hj
    have e : ses l = ses (l.take (i + 1)) ++ news := by rw [hnews, ← ses_append, List.take_append_drop]
    rw [e, List.getElem?_append_right (by rw [ses_length, List.length_take]; omega)]
    congr 1
    rw [ses_length, List.length_take]
    omega
  obtain ⟨A, hA, hA2⟩ := cutS_tail g (N + 1) cap (i + 1) (by omega)
  have HSRC : Hid (∀ j u, news[j]? = some u → w.drew.cell? (A.add j) = some u) := by
    intro j u hu
    have hj := (List.getElem?_eq_some_iff.1 hu).1
    rw [hA2 (by omega), addr_add]
    show w.cell? _ = _
    rw [hcell _ (by omega), ← hng j hj]
    exact hu
  have HONE : Hid (∀ u ∈ news, u.oneCell' = true) := by rw [hnews]; exact ses_one _
  have HSP : Hid (∀ j, j < news.length → (w.drew.cell? ⟨g, 0 + i * 2 + j, none⟩).isSome = true ∧ w.drew.frozen? ⟨g, 0 + i * 2 + j, none⟩ = false) := by
    intro j hj
    refine ⟨?_, hfz _⟩
    show (w.cell? _).isSome = true
    rw [hcell _ (by omega), List.getElem?_eq_getElem (by omega)]
    rfl
  obtain ⟨W1, hW1⟩ : ∃ W1, w.drew.setCells g (0 + i * 2) news = W1 := ⟨_, rfl⟩
  have hW1in : ∀ j, j < news.length → W1.cell? ⟨g, 0 + i * 2 + j, none⟩ = news[j]? := by
    intro j hj
    rw [← hW1, World.cell?_setCells_in g news (0 + i * 2) w.drew (fun q hq => (HSP.out q hq).1) j hj, List.getElem?_eq_getElem hj]
  have hW1out : ∀ j, (j < i * 2 ∨ i * 2 + news.length ≤ j) → W1.cell? ⟨g, j, none⟩ = w.cell? ⟨g, j, none⟩ := by
    intro j hj
    rw [← hW1, World.cell?_setCells_out g news (0 + i * 2) w.drew _ (fun _ _ => by simp only; omega)]
    rfl
  have hW1f : ∀ j, W1.frozen? ⟨g, j, none⟩ = false := by
    intro j
    rw [← hW1, World.frozen?_setCells]
    exact hfz j
  have HG1 : Hid (w.grownBy W1 (some g)) := by
    rw [← hW1]
    exact grownBy_trans (b := w.drew) ⟨rfl, rfl, rfl, Nat.le_refl _, fun _ _ _ => rfl⟩ (setCells_grown g news _ _)
  have hcl : ∀ ty, (Builtin.clear_ #[22] ty #[.slice (some ⟨g, N * 2, none⟩) 1 (cap - N)]).run Tryd.prog W1 = .ok (.tuple #[]) (W1.setCells g (N * 2) [.int .i64 0, .slice none 0 0]) := fun ty => clear_one W1 ty g (N * 2) (cap - N) (fun j hj => by
    rw [hW1out _ (.inr (by omega)), hcell _ (by omega), List.getElem?_eq_getElem (by omega)]
    rfl) (fun j hj => hW1f _)
  have HFIN : Hid (∀ j u, (ses (l.eraseIdx i))[j]? = some u → (W1.setCells g (N * 2) [.int .i64 0, .slice none 0 0]).cell? ⟨g, j, none⟩ = some u) := by
    intro j u hu
    have hj : j < N * 2 := by
      have := (List.getElem?_eq_some_iff.1 hu).1
      rw [ses_length, List.length_eraseIdx_of_lt hi] at this
      omega
    rw [World.cell?_setCells_out g _ (N * 2) W1 _ (fun _ _ => .inl hj)]
    rw [List.eraseIdx_eq_take_drop_succ, ses_append, ← hnews] at hu
    have htl : (ses (l.take i)).length = i * 2 := by rw [ses_length, List.length_take]; omega
    rcases Nat.lt_or_ge j (i * 2) with h | h
    · rw [hW1out j (.inl h), hcell j (by omega)]
      rw [List.getElem?_append_left (by omega)] at hu
      have e : ses l = ses (l.take i) ++ ses (l.drop i) := by rw [← ses_append, List.take_append_drop]
      rw [e, List.getElem?_append_left (by omega)]
      exact hu
    · rw [List.getElem?_append_right (by omega), htl] at hu
      have := hW1in (j - i * 2) (by omega)
      rw [show 0 + i * 2 + (j - i * 2) = j by omega] at this
      rw [this]
      exact hu
  have HG2 : Hid (w.grownBy (W1.setCells g (N * 2) [.int .i64 0, .slice none 0 0]) (some g)) := grownBy_trans HG1.out (setCells_grown g _ _ _)
  have HW := hide hW1
  have HNL := hide hnl
  have q0 := fun wx => cut_secs g 0 (N + 1) cap i (i : Int) wx rfl (by omega)
  have q1 : ∀ wx, (Instr.slice 22 (.slice (some ⟨g, 0, none⟩) (N + 1) cap) (some (.int .i64 ((i : Int) + 1))) none none).run Tryd.prog wx = .ok (.slice (some A) (N - i) (cap - (i + 1))) wx := by
    intro wx
    have := hA wx
    rw [show ((i + 1 : Nat) : Int) = (i : Int) + 1 by simp, show N + 1 - (i + 1) = N - i by omega] at this
    exact this
  have q2 : ∀ wx, (Instr.slice 22 (.slice (some ⟨g, 0, none⟩) N cap) (some (.int .i64 (N : Int))) (some (.int .i64 ((N : Int) + 1))) none).run Tryd.prog wx = .ok (.slice (some ⟨g, N * 2, none⟩) 1 (cap - N)) wx := by
    intro wx
    have := cutS_mid g N cap N (N + 1) (by omega) (by omega) (by omega) wx
    rw [show ((N + 1 : Nat) : Int) = (N : Int) + 1 by simp, show N + 1 - N = 1 by omega] at this
    exact this
  rw [hN] at hle ⊢
  have hNc : N + 1 ≤ cap := hle
  clear hcell hfz hsl hnews hng hA hA2 hW1in hW1out hW1f hW1 HG1 h e hb hg hs ht hnl
  have hne : ((i : Int) == (i : Int) + 1) = false := by simp; omega
  have hiN : i ≤ N := by omega
  have r1 : (i : Int) + 1 ≤ ((N + 1 : Nat) : Int) := by omega
  have r2 : ((N + 1 : Nat) : Int) ≤ (cap : Int) := by omega
  have r3 : (i : Int) + 1 ≤ (N : Int) + 1 := by omega
  have r4 : (N : Int) + 1 ≤ (cap : Int) := by omega
  obtain ⟨i0, hi0, hz0, hz1, hz2⟩ := info_parts Tryd.infoE
  have HI0 := hide (And.intro hi0 hz1)
  clear hi0 hz0 hz1 hz2 hi hl hN
  go_enter Tryd.func17, Tryd.ntmps17
  go_wp2
  go_region_law (refine step_append_room rfl _ _ _ rfl 42 i0 2 Tryd.underlying22 HI0.out.1 HI0.out.2 g 0 i cap rfl A (N - i) (cap - (i + 1)) news rfl HNL.out HSRC.out HONE.out (by omega) HSP.out ?_; rw [HW.out])
  all_goals
    go_wp2
    go_ret
    exact ⟨by simp, HG2, HFIN⟩
#print axioms deleteS_any
end Go.Proofs.YthhcaalafacjlaaDoor
end
section
set_option linter.unusedVariables false
set_option maxRecDepth 1000000
namespace Go.Proofs.YthhcaalafacjlaaDoor
open Go.RowKit

theorem mk_ok {L : List Sec} {x : Cl} {t : List UInt8} (h : mkT L x = (0, t)) : ckOk L = true ∧ clOk x = 0 ∧ t = tok (lastS L) x := by
  unfold mkT at h
  split at h
  · simp at h
  · rename_i h1
    split at h
    · rename_i h2
      exact absurd (Prod.mk.inj h).1 h2
    · rename_i h2
      exact ⟨by simpa using h1, by simpa using h2, (Prod.mk.inj h).2.symm⟩
theorem mk_bad {L : List Sec} {x : Cl} {E : Int} {t : List UInt8} (h : mkT L x = (E, t)) (hE : E ≠ 0) : t = [] := by
  unfold mkT at h
  split at h
  · exact (Prod.mk.inj h).2.symm
  · split at h
    · exact (Prod.mk.inj h).2.symm
    · exact absurd (Prod.mk.inj h).1.symm hE
theorem cl_names {x : Cl} (h : clOk x = 0) : x.c.length ≤ 24 ∧ x.g.length ≤ 24 ∧ 0 ≤ x.u ∧ x.u ≤ 1099511627776 := by
  unfold clOk at h
  split at h
  · rename_i hn
    rw [Bool.and_eq_true] at hn
    split at h
    · rename_i hu
      exact ⟨(nm_len hn.1).1, (nm_len hn.2).1, hu.1, hu.2⟩
    · omega
  · omega
theorem tok_len (s : Sec) (x : Cl) (h : clOk x = 0) : (tok s x).length ≤ 400 := by
  have hn := cl_names h
  simp only [tok, List.length_append, List.length_cons, sp_length, mac_length]
  have := pay_len s.1 x
  omega
theorem ok_ne {L : List Sec} (h : ckOk L = true) : L ≠ [] := by
  simp only [ckOk, Bool.and_eq_true, decide_eq_true_eq] at h
  exact h.1.1
theorem rd_last {L : List Sec} {x : Cl} {t : List UInt8} (now : Int) (h : mkT L x = (0, t)) : rdT L now t = if x.u ≤ now then (101, Cl.zero) else (0, x) := by
  obtain ⟨h1, h2, rfl⟩ := mk_ok h
  exact rd_mk L (L.length - 1) (lastS L) x now h1 (last_get L (ok_ne h1)) h2

end Go.Proofs.YthhcaalafacjlaaDoor
end
section
set_option linter.unusedVariables false
set_option maxRecDepth 1000000
namespace Go.Proofs.YthhcaalafacjlaaDoor
open Go.RowKit

theorem ck_all : ∀ (L : List Sec) (m : Int), ckFrom m L = true → ∀ s ∈ L, m ≤ s.1 ∧ s.1 ≤ 1099511627776 ∧ 16 ≤ s.2.length ∧ s.2.length ≤ 64
  | [], _, _, s, h => by cases h
  | t :: r, m, h, s, hs => by
    simp only [ckFrom, Bool.and_eq_true, decide_eq_true_eq] at h
    rcases List.mem_cons.1 hs with rfl | hs
    · exact ⟨h.1.1.1.1, h.1.1.1.2, h.1.1.2, h.1.2⟩
    · have := ck_all r _ h.2 s hs
      exact ⟨by omega, this.2⟩
theorem ck_low : ∀ (L : List Sec) (m m' : Int), m' ≤ m → ckFrom m L = true → ckFrom m' L = true
  | [], _, _, _, _ => rfl
  | t :: r, m, m', hm, h => by
    simp only [ckFrom, Bool.and_eq_true, decide_eq_true_eq] at h ⊢
    exact ⟨⟨⟨⟨by omega, h.1.1.1.2⟩, h.1.1.2⟩, h.1.2⟩, h.2⟩
theorem ck_erase : ∀ (L : List Sec) (m : Int) (i : Nat), ckFrom m L = true → ckFrom m (L.eraseIdx i) = true
  | [], _, i, _ => by simp [ckFrom]
  | t :: r, m, 0, h => by
    simp only [ckFrom, Bool.and_eq_true, decide_eq_true_eq] at h
    simp only [List.eraseIdx_cons_zero]
    exact ck_low r _ _ (by omega) h.2
  | t :: r, m, i + 1, h => by
    simp only [List.eraseIdx_cons_succ, ckFrom, Bool.and_eq_true, decide_eq_true_eq] at h ⊢
    exact ⟨h.1, ck_erase r _ i h.2⟩
theorem ck_gone : ∀ (L : List Sec) (m : Int) (i : Nat) (s : Sec), ckFrom m L = true → L[i]? = some s → ∀ k ∈ L.eraseIdx i, k.1 ≠ s.1
  | [], _, i, s, _, h, _, _ => by simp at h
  | t :: r, m, 0, s, hc, h, k, hk => by
    simp at h
    subst h
    simp only [ckFrom, Bool.and_eq_true, decide_eq_true_eq] at hc
    simp only [List.eraseIdx_cons_zero] at hk
    have := ck_all r _ hc.2 k hk
    omega
  | t :: r, m, i + 1, s, hc, h, k, hk => by
    simp only [ckFrom, Bool.and_eq_true, decide_eq_true_eq] at hc
    have hs : r[i]? = some s := by simpa using h
    simp only [List.eraseIdx_cons_succ] at hk
    rcases List.mem_cons.1 hk with rfl | hk
    · have := ck_all r _ hc.2 s (List.mem_of_getElem? hs)
      omega
    · exact ck_gone r _ i s hc.2 hs k hk
theorem ok_one {L : List Sec} {i : Nat} {s : Sec} (h : ckOk L = true) (hs : L[i]? = some s) : ckOk [s] = true := by
  simp only [ckOk, Bool.and_eq_true, decide_eq_true_eq] at h
  have := ck_all L 0 h.2 s (List.mem_of_getElem? hs)
  simp [ckOk, ckFrom, this]
theorem ok_rest {L : List Sec} {i : Nat} (h : ckOk L = true) (h2 : 2 ≤ L.length) (hi : i < L.length) : ckOk (L.eraseIdx i) = true := by
  simp only [ckOk, Bool.and_eq_true, decide_eq_true_eq] at h ⊢
  have hl := List.length_eraseIdx_of_lt hi
  refine ⟨⟨?_, by omega⟩, ck_erase L 0 i h.2⟩
  intro e
  rw [e] at hl
  simp at hl
  omega
theorem rd_gone {L : List Sec} {i : Nat} {s : Sec} (x : Cl) (now : Int) (h : ckOk L = true) (h2 : 2 ≤ L.length) (hs : L[i]? = some s) (hx : clOk x = 0) : rdT (L.eraseIdx i) now (tok s x) = (100, Cl.zero) := by
  have hi := (List.getElem?_eq_some_iff.1 hs).1
  have hm := ckOk_mem h s (List.mem_of_getElem? hs)
  have hc : ckFrom 0 L = true := by simp only [ckOk, Bool.and_eq_true] at h; exact h.2
  unfold rdT
  rw [if_neg (by rw [ok_rest h h2 hi]; simp), say_tok s x hm.1 hm.2.1 hx]
  have hf : (L.eraseIdx i).findIdx? (fun k => k.1 == s.1) = none := by
    rw [List.findIdx?_eq_none_iff]
    intro k hk
    simp [ck_gone L 0 i s hc hs k hk]
  have hg : sgn (L.eraseIdx i) s.1 x (tok s x) = false := by
    unfold sgn
    rw [hf]
  rw [if_pos hg]

theorem SecR.one {w : World} {b off : Nat} {L : List Sec} (h : SecR w (some ⟨b, off, none⟩) L) {i : Nat} {s : Sec} (hs : L[i]? = some s) : SecR w (some ⟨b, off + i * 2, none⟩) [s] := by
  refine ⟨fun _ => ⟨b, off + i * 2, rfl, fun j t ht => ?_⟩, fun t ht => ?_⟩
  · have hj : j = 0 := by
      have := (List.getElem?_eq_some_iff.1 ht).1
      simp at this
      exact this
    subst hj
    simp at ht
    subst ht
    obtain ⟨b', off', x, c, e, h1, h2, h3, _⟩ := h.at hs
    obtain ⟨rfl, rfl⟩ : b = b' ∧ off = off' := by simpa using e
    exact ⟨x, c, by simpa using h1, by simpa using h2, h3⟩
  · simp at ht
    subst ht
    exact h.int _ (List.mem_of_getElem? hs)
theorem secR_of_ses {w : World} {g : Nat} {l : List Se} (hc : ∀ j u, (ses l)[j]? = some u → w.cell? ⟨g, j, none⟩ = some u) (hb : ∀ t ∈ l, Bs w t.2.1 t.2.2 t.1.2) (hi : ∀ t ∈ l, -9223372036854775808 ≤ t.1.1 ∧ t.1.1 ≤ 9223372036854775807) : SecR w (some ⟨g, 0, none⟩) (l.map (·.1)) := by
  refine ⟨fun _ => ⟨g, 0, rfl, fun i s hs => ?_⟩, fun s hs => ?_⟩
  · rw [List.getElem?_map] at hs
    obtain ⟨t, ht, rfl⟩ := Option.map_eq_some_iff.1 hs
    have k0 := ses_get l i 0 t ht (by omega)
    have k1 := ses_get l i 1 t ht (by omega)
    refine ⟨t.2.1, t.2.2, ?_, ?_, hb t (List.mem_of_getElem? ht)⟩
    · rw [Nat.zero_add]; exact hc _ _ (by rw [Nat.add_zero] at k0; rw [k0]; rfl)
    · rw [Nat.zero_add]; exact hc _ _ (by rw [k1]; rfl)
  · obtain ⟨t, ht, rfl⟩ := List.mem_map.1 hs
    exact hi t ht
theorem cutS_at (b off N cap E H : Nat) (h1 : E ≤ H) (h2 : H ≤ cap) (h3 : ¬ cap = E) (w : World) : (Instr.slice 22 (.slice (some ⟨b, off, none⟩) N cap) (some (.int .i64 (E : Int))) (some (.int .i64 (H : Int))) none).run Tryd.prog w = .ok (.slice (some ⟨b, off + E * 2, none⟩) (H - E) (cap - E)) w := by
  rw [run_slice_lh (P := Tryd.prog) w 22 _ N cap Tryd.elemS .i64 .i64 (E : Int) (H : Int) (by omega) (by omega) (by omega), Tryd.sizeS]
  simp only [Result.andThen, sliced, Int.toNat_natCast, if_neg h3, Option.map_some, addr_add]
theorem tmod_natc (m n : Nat) : (m : Int).tmod (n : Int) = ((m % n : Nat) : Int) := rfl
#print axioms rd_gone
end Go.Proofs.YthhcaalafacjlaaDoor
end
section
set_option linter.unusedVariables false
set_option maxRecDepth 1000000
namespace Go.Proofs.YthhcaalafacjlaaDoor
open Go.RowKit

theorem erase_map : ∀ (l : List Se) (i : Nat), (l.eraseIdx i).map (·.1) = (l.map (·.1)).eraseIdx i
  | [], i => by simp
  | t :: r, 0 => by simp
  | t :: r, i + 1 => by simp [erase_map r i]
set_option maxHeartbeats 8000000 in
theorem authtokSecrets_walk (p : Option Addr) (cp : Nat) (L : List Sec) (at' : Int) (c g : List UInt8) (u now : Int) (w : World) (h : SecR w p L) (hl : L.length ≤ maxLen) (hc : c.length ≤ maxLen) (hg : g.length ≤ maxLen) (hu0 : -9223372036854775808 ≤ u) (hu1 : u ≤ 9223372036854775807) (hT : Tb w) :
    Calls Tryd.prog 5 #[.slice p L.length cp, .int .i64 at', .agg #[.string (str c), .string (str g), .int .i64 u], .int .i64 now] w fun e w' => e = .returned (.bool true) ∧ Below w.heap.size w w' := by
  unfold maxLen at hc hg
  have HS := hide h
  have HT := hide hT
  have hsc : (str c).size = c.length := str_size c
  have hsg : (str g).size = g.length := str_size g
  clear h hT
  have HAW : Hid (∀ W, Hid (Below w.heap.size w W) → Calls Tryd.prog 7 #[] W fun e W' => e = .returned (.bool true) ∧ Hid (Below w.heap.size w W')) := by
    intro W h
    refine (awake_any W (HT.out.below h.out HT.out.big)).mono ?_
    rintro e W' ⟨rfl, hb⟩
    exact ⟨rfl, h.out.trans (hb.mono h.out.size)⟩
  go_enter Tryd.func5, Tryd.ntmps5
  go_wp2_with fail
  have HC1 := hide (ClC.new w c g u)
  have HB1 : Hid (Below w.heap.size w (w.alloc (.cells #[.string (str c), .string (str g), .int .i64 u] 24))) := (Below.refl _ _).alloc (Nat.le_refl _) _
  generalize w.alloc (.cells #[.string (str c), .string (str g), .int .i64 u] 24) = w1 at *
  refine (secrets_any p cp L w1 (HS.out.below HB1.out (Nat.le_refl _)) hl).mono ?_
  rintro e w2 ⟨hb2, hv⟩
  have HC2 := hide (HC1.out.below hb2.out (Nat.le_refl _))
  have HB2 : Hid (Below w.heap.size w w2) := HB1.out.trans (hb2.out.mono HB1.out.size)
  clear hb2 HC1 HB1
  obtain ⟨k0, k1, k2⟩ := HC2.out
  rcases hv with rfl | ⟨a, cap, rfl, HS2, hcap, hcm, h21⟩
  · go_wp2_with (go_at_call 7; refine (HAW.out _ HB2).mono ?_; rintro e w9 ⟨rfl, hb9⟩)
    go_ret
    exact ⟨rfl, hb9.out⟩
  unfold maxLen at hcm
  go_wp2_with fail
  refine (check_any a cap L L.length w2 rfl HS2.out (by omega)).mono ?_
  rintro e w3 ⟨rfl, hb3⟩
  have HS3 := hide (HS2.out.below hb3 (Nat.le_refl _))
  have HC3 := hide (HC2.out.below hb3 (Nat.le_refl _))
  have HB3 : Hid (Below w.heap.size w w3) := HB2.out.trans (hb3.mono HB2.out.size)
  clear hb3 HC2 HB2 HS2 k0 k1 k2
  obtain ⟨k0, k1, k2⟩ := HC3.out
  cases hck : ckOk L with
  | false =>
    go_wp2_with (go_at_call 7; refine (HAW.out _ HB3).mono ?_; rintro e w9 ⟨rfl, hb9⟩)
    go_ret
    exact ⟨rfl, hb9.out⟩
  | true =>
  have HCK := hide hck
  clear hck
  by_cases q0 : L.length < 2
  · have d0 : decide ((L.length : Int) < 2) = true := decide_eq_true (by omega)
    go_wp2_with (go_at_call 7; refine (HAW.out _ HB3).mono ?_; rintro e w9 ⟨rfl, hb9⟩)
    go_ret
    exact ⟨rfl, hb9.out⟩
  have d0 : decide ((L.length : Int) < 2) = false := decide_eq_false (by omega)
  by_cases q1 : 65536 < c.length
  · have d1 : decide ((65536 : Int) < (c.length : Int)) = true := decide_eq_true (by omega)
    go_wp2_with (go_at_call 7; refine (HAW.out _ HB3).mono ?_; rintro e w9 ⟨rfl, hb9⟩)
    go_ret
    exact ⟨rfl, hb9.out⟩
  have d1 : decide ((65536 : Int) < (c.length : Int)) = false := decide_eq_false (by omega)
  by_cases q2 : 65536 < g.length
  · have d2 : decide ((65536 : Int) < (g.length : Int)) = true := decide_eq_true (by omega)
    go_wp2_with (go_at_call 7; refine (HAW.out _ HB3).mono ?_; rintro e w9 ⟨rfl, hb9⟩)
    go_ret
    exact ⟨rfl, hb9.out⟩
  have d2 : decide ((65536 : Int) < (g.length : Int)) = false := decide_eq_false (by omega)
  obtain ⟨K, hK⟩ : ∃ K : Nat, IntKind.u64.wrap at' = (K : Int) := ⟨(IntKind.u64.wrap at').toNat, by rw [IntKind.wrap_u64]; omega⟩
  have hW : IntKind.u64.wrap (L.length : Int) = (L.length : Int) := by rw [IntKind.wrap_u64]; omega
  obtain ⟨I, hI⟩ : ∃ I, I = K % L.length := ⟨_, rfl⟩
  have hIl : I < L.length := by rw [hI]; exact Nat.mod_lt _ (by omega)
  have hI1 : (K : Int).tmod (L.length : Int) = (I : Int) := by rw [hI]; exact tmod_natc K L.length
  have hI2 : (K : Int) % (L.length : Int) = (I : Int) := by rw [hI]; simp
  have hIw : IntKind.i64.wrap (I : Int) = (I : Int) := by rw [IntKind.wrap_i64]; omega
  clear hI
  obtain ⟨k, hk⟩ : ∃ k, L[I]? = some k := ⟨_, List.getElem?_eq_getElem hIl⟩
  obtain ⟨b, off, x, cx, rfl, -, -, -, -⟩ := HS3.out.at hk
  have HKK := hide hk
  clear hk
  obtain ⟨n, hn⟩ : ∃ n, n = I + 1 := ⟨_, rfl⟩
  have htl : (L.take n).length = n := by rw [List.length_take]; omega
  have HMK : Hid (∀ W, Hid (InvS w3 w.heap.size c g u W) → Calls Tryd.prog 8 #[.slice (some ⟨b, off, none⟩) n cap, .agg #[.string (str c), .string (str g), .int .i64 u]] W fun e W' => ∃ (E : Int) (t : List UInt8), e = .returned (.tuple #[.string (str t), .int .i64 E]) ∧ Hid ((E, t) = mkT (L.take n) ⟨c, g, u⟩) ∧ Hid (InvS w3 w.heap.size c g u W')) := by
    intro W h
    have hBW : Below w.heap.size w W := HB3.out.trans (h.out.1.mono HB3.out.size)
    have hm := make_core (some ⟨b, off, none⟩) cap (L.take n) c g u W ((HS3.out.below h.out.1 (Nat.le_refl _)).take n) (HT.out.below hBW HT.out.big) (by rw [htl]; omega) (by omega) (by omega) hu0 hu1
    rw [htl] at hm
    refine hm.mono ?_
    rintro e W' ⟨E, t, rfl, h1, h2⟩
    exact ⟨E, t, rfl, h1, h.out.next h2.out⟩
  have p1 : (I : Int) + 1 = (n : Int) := by omega
  have p2 : ¬ cap = 0 := by omega
  have p3 : n ≤ cap := by omega
  have p4 : (n : Int) ≤ (cap : Int) := by omega
  have p5 : IntKind.i64.wrap (n : Int) = (n : Int) := by rw [IntKind.wrap_i64]; omega
  have p6 : 0 ≤ (n : Int) := by omega
  have HN := hide hn
  clear htl hn
  have HI4 : Hid (InvS w3 w.heap.size c g u w3.drew) := ⟨(Below.refl _ _).drew, HC3.out.below (Below.refl w3.heap.size w3).drew (Nat.le_refl _)⟩
  have e0 : str [] = (⟨#[]⟩ : ByteArray) := rfl
  go_wp2
  go_region_with (go_at_call 8; refine (HMK.out _ (by assumption)).mono ?_; rintro e w5 ⟨E, t, rfl, hE, hI5⟩)
  all_goals
    clear HMK HI4 k0 k1 k2
    rw [HN.out] at hE
    have HS5 := hide (HS3.out.below hI5.out.1 (Nat.le_refl _))
    have HB5 : Hid (Below w.heap.size w w5) := HB3.out.trans (hI5.out.1.mono HB3.out.size)
    clear hI5 HS3 HB3 HC3
    by_cases hE0 : E = 0
    · subst hE0
      have hm := hE.out.symm
      have hcl := (mk_ok hm).2.1
      have htok : t = tok k ⟨c, g, u⟩ := by rw [(mk_ok hm).2.2, last_take L I k HKK.out]
      have htl : t.length ≤ 400 := by rw [htok]; exact tok_len _ _ hcl
      obtain ⟨R, hR⟩ : ∃ R : Int × Cl, (if u ≤ now then ((101 : Int), Cl.zero) else (0, ⟨c, g, u⟩)) = R := ⟨_, rfl⟩
      have HR1 : Hid (rdT L now t = R) := by show _ = _; rw [htok, rd_mk L I k ⟨c, g, u⟩ now HCK.out HKK.out hcl]; exact hR
      have HR2 : Hid (rdT [k] now t = R) := by show _ = _; rw [htok, rd_mk [k] 0 k ⟨c, g, u⟩ now (ok_one HCK.out HKK.out) rfl hcl]; exact hR
      have HR3 : Hid (rdT (L.eraseIdx I) now t = (100, Cl.zero)) := by show _ = _; rw [htok]; exact rd_gone ⟨c, g, u⟩ now HCK.out (by omega) HKK.out hcl
      clear hm hcl htok hE hR
      obtain ⟨RE, Rc, Rg, Ru⟩ := R
      go_wp2_with fail
      refine (read_any (some ⟨b, off, none⟩) cap L now t w5 HS5.out (HT.out.below HB5.out HT.out.big) (by omega) hcap (by unfold maxLen; omega) (by omega)).mono ?_
      rintro e w6 ⟨E1, c1, g1, u1, rfl, hE1, hb6⟩
      rw [HR1.out] at hE1
      have h1 := Prod.mk.inj hE1.out
      have h2 := h1.2
      simp only [Cl.mk.injEq] at h2
      obtain ⟨rfl, rfl, rfl⟩ := h2
      obtain rfl := h1.1
      have HX7 := hide (ClC.new w6 c1 g1 u1)
      have HB7 : Hid (Below w.heap.size w (w6.alloc (.cells #[.string (str c1), .string (str g1), .int .i64 u1] 24))) := (HB5.out.trans (hb6.out.mono HB5.out.size)).alloc (Nat.le_trans HB5.out.size hb6.out.size) _
      have HS7 : Hid (SecR (w6.alloc (.cells #[.string (str c1), .string (str g1), .int .i64 u1] 24)) (some ⟨b, off, none⟩) L) := (HS5.out.below hb6.out (Nat.le_refl _)).below ((Below.refl w6.heap.size w6).alloc (Nat.le_refl _) _) (Nat.le_refl _)
      have s1 : ∀ wx, (Instr.slice 22 (.slice (some ⟨b, off, none⟩) L.length cap) (some (.int .i64 (I : Int))) (some (.int .i64 (n : Int))) none).run Tryd.prog wx = .ok (.slice (some ⟨b, off + I * 2, none⟩) 1 (cap - I)) wx := by
        intro wx
        have := cutS_at b off L.length cap I n (by have := HN.out; omega) (by omega) (by omega) wx
        rw [show n - I = 1 by have := HN.out; omega] at this
        exact this
      clear hE1 h1 hb6 HS5 HB5
      go_wp2_with fail
      generalize w6.alloc (.cells #[.string (str c1), .string (str g1), .int .i64 u1] 24) = w7 at *
      generalize w6.heap.size = X1 at *
      refine (read_any (some ⟨b, off + I * 2, none⟩) (cap - I) [k] now t w7 (HS7.out.one HKK.out) (HT.out.below HB7.out HT.out.big) (by simp) (by simp; omega) (by unfold maxLen; omega) (by omega)).mono ?_
      rintro e w8 ⟨E2, c2, g2, u2, rfl, hE2, hb8⟩
      rw [HR2.out] at hE2
      have h1 := Prod.mk.inj hE2.out
      have h2 := h1.2
      simp only [Cl.mk.injEq] at h2
      obtain ⟨rfl, rfl, rfl⟩ := h2
      obtain rfl := h1.1
      have HX8 := hide (HX7.out.below hb8.out (Nat.le_refl _))
      have HX9 := hide (HX8.out.below ((Below.refl w8.heap.size w8).alloc (Nat.le_refl _) (.cells #[.string (str c2), .string (str g2), .int .i64 u2] 24)) (Nat.le_refl _))
      have HY9 := hide (ClC.new w8 c2 g2 u2)
      have HB9 : Hid (Below w.heap.size w (w8.alloc (.cells #[.string (str c2), .string (str g2), .int .i64 u2] 24))) := (HB7.out.trans (hb8.out.mono HB7.out.size)).alloc (Nat.le_trans HB7.out.size hb8.out.size) _
      have HS9 : Hid (SecR (w8.alloc (.cells #[.string (str c2), .string (str g2), .int .i64 u2] 24)) (some ⟨b, off, none⟩) L) := (HS7.out.below hb8.out (Nat.le_refl _)).below ((Below.refl w8.heap.size w8).alloc (Nat.le_refl _) _) (Nat.le_refl _)
      clear hE2 h1 hb8 HS7 HB7 HX7 HX8
      go_wp2_with fail
      generalize w8.alloc (.cells #[.string (str c2), .string (str g2), .int .i64 u2] 24) = w9 at *
      generalize w8.heap.size = X2 at *
      obtain ⟨l, hlm, hlc, hlb⟩ := HS9.out.list
      have hll : l.length = L.length := by rw [← hlm]; simp
      have hcl2 := cloneS_any b off cap l w9 hlc (by omega) (by omega)
      rw [hll] at hcl2
      refine hcl2.mono ?_
      rintro e w10 ⟨gg, gc, rfl, HO10, hb10⟩
      have HX10 := hide (HX9.out.below hb10.out (Nat.le_refl _))
      have HY10 := hide (HY9.out.below hb10.out (Nat.le_refl _))
      have HB10 : Hid (Below w.heap.size w w10) := HB9.out.trans (hb10.out.mono HB9.out.size)
      have hgg := HO10.out.lt gg rfl
      have HLB : Hid (∀ t ∈ l, Bs w10 t.2.1 t.2.2 t.1.2) := fun t ht => (hlb t ht).below hb10.out (Nat.le_refl _)
      have HGS : Hid (∀ t ∈ l, t.1.2 ≠ [] → blk t.2.1 ≠ some gg) := by
        intro t ht hne e
        obtain ⟨bb, oo, ea, hce⟩ := (hlb t ht).row hne
        have h3 := World.block_lt_of_cell? w9 _ (hce 0 (List.length_pos_iff.2 hne))
        rw [ea] at e
        have : bb = gg := by simpa [blk] using e
        have h4 := hgg.1
        simp only at h3
        omega
      have HINT : Hid (∀ t ∈ l, -9223372036854775808 ≤ t.1.1 ∧ t.1.1 ≤ 9223372036854775807) := fun t ht => HS9.out.int t.1 (by rw [← hlm]; exact List.mem_map_of_mem ht)
      have HX1L : Hid (X1 < w9.heap.size) := HX9.out.lt
      have HX2L : Hid (X2 < w9.heap.size) := HY9.out.lt
      have HW9 : Hid (w9.heap.size ≤ gg) := hgg.1
      have HWB : Hid (w.heap.size ≤ w9.heap.size) := HB9.out.size
      clear hcl2 hb10 HX9 HY9 HB9 HS9 hlc hlb hgg
      have HDE : Hid (Calls Tryd.prog 17 #[.slice (some ⟨gg, 0, none⟩) L.length gc, .int .i64 (I : Int), .int .i64 (n : Int)] w10 fun e w' => e = .returned (.slice (some ⟨gg, 0, none⟩) (L.length - 1) gc) ∧ Hid (w10.grownBy w' (some gg)) ∧ Hid (SecR w' (some ⟨gg, 0, none⟩) (L.eraseIdx I))) := by
        have hd := deleteS_any gg gc l I w9.heap.size w10 HO10.out (by omega) (by omega)
        rw [hll, p1] at hd
        refine hd.mono ?_
        rintro e w' ⟨rfl, hgr, hcc⟩
        refine ⟨rfl, hgr, ?_⟩
        have hmem : ∀ t ∈ l.eraseIdx I, t ∈ l := fun t ht => List.mem_of_mem_eraseIdx ht
        have := secR_of_ses hcc.out (fun t ht => by
          by_cases hne : t.1.2 = []
          · have hb := HLB.out t (hmem t ht)
            rw [hne] at hb ⊢
            exact ⟨fun h => absurd rfl h, hb.le, hb.most, hb.nz⟩
          · exact (HLB.out t (hmem t ht)).grown hgr.out (.inr (HGS.out t (hmem t ht) hne))) (fun t ht => HINT.out t (hmem t ht))
        rw [erase_map, hlm] at this
        exact this
      have hgcap : L.length ≤ gc ∧ gc ≤ maxLen := by
        rcases HO10.out.cases with ⟨e, _⟩ | ⟨_, _, _, _, _, h4, h5, _⟩
        · cases e
        · exact ⟨by omega, h5⟩
      clear HO10 HLB HGS HINT hlm hll
      go_wp2_with fail
      refine HDE.out.mono ?_
      rintro e w11 ⟨rfl, hg11, HS11⟩
      have HX11 : Hid (ClC w11 X1 c2 g2 u2) := ⟨by rw [World.cell?_of_block (hg11.out.block X1 HX10.out.lt (fun e => by have := Option.some.inj e; have := HX1L.out; have := HW9.out; omega))]; exact HX10.out.1, by rw [World.cell?_of_block (hg11.out.block X1 HX10.out.lt (fun e => by have := Option.some.inj e; have := HX1L.out; have := HW9.out; omega))]; exact HX10.out.2.1, by rw [World.cell?_of_block (hg11.out.block X1 HX10.out.lt (fun e => by have := Option.some.inj e; have := HX1L.out; have := HW9.out; omega))]; exact HX10.out.2.2⟩
      have HY11 : Hid (ClC w11 X2 c2 g2 u2) := ⟨by rw [World.cell?_of_block (hg11.out.block X2 HY10.out.lt (fun e => by have := Option.some.inj e; have := HX2L.out; have := HW9.out; omega))]; exact HY10.out.1, by rw [World.cell?_of_block (hg11.out.block X2 HY10.out.lt (fun e => by have := Option.some.inj e; have := HX2L.out; have := HW9.out; omega))]; exact HY10.out.2.1, by rw [World.cell?_of_block (hg11.out.block X2 HY10.out.lt (fun e => by have := Option.some.inj e; have := HX2L.out; have := HW9.out; omega))]; exact HY10.out.2.2⟩
      have HB11 : Hid (Below w.heap.size w w11) := HB10.out.grown hg11.out HB10.out.size (fun q hq => by rw [← Option.some.inj hq]; exact Nat.le_trans HWB.out HW9.out)
      have hel : (L.eraseIdx I).length = L.length - 1 := List.length_eraseIdx_of_lt hIl
      have HRD : Hid (Calls Tryd.prog 15 #[.slice (some ⟨gg, 0, none⟩) (L.length - 1) gc, .int .i64 now, .string (str t)] w11 fun e w' => e = .returned (.tuple #[.agg #[.string ⟨#[]⟩, .string ⟨#[]⟩, .int .i64 0], .int .i64 100]) ∧ Hid (Below w11.heap.size w11 w')) := by
        have hr := read_any (some ⟨gg, 0, none⟩) gc (L.eraseIdx I) now t w11 HS11.out (HT.out.below HB11.out HT.out.big) (by omega) (by omega) hgcap.2 (by omega)
        rw [hel] at hr
        refine hr.mono ?_
        rintro e w' ⟨E3, c3, g3, u3, rfl, hE3, hb⟩
        rw [HR3.out] at hE3
        have h1 := Prod.mk.inj hE3.out
        have h2 := h1.2
        simp only [Cl.zero, Cl.mk.injEq] at h2
        obtain ⟨rfl, rfl, rfl⟩ := h2
        obtain rfl := h1.1
        exact ⟨rfl, hb⟩
      clear hg11 HX10 HY10 HB10 HDE HS11 hel hgcap
      go_wp2_with fail
      refine HRD.out.mono ?_
      rintro e w12 ⟨rfl, hb12⟩
      have HX12 := hide (HX11.out.below hb12.out (Nat.le_refl _))
      have HY12 := hide (HY11.out.below hb12.out (Nat.le_refl _))
      have HB12 : Hid (Below w.heap.size w w12) := HB11.out.trans (hb12.out.mono HB11.out.size)
      have HB13 : Hid (∀ o, Hid (Below w.heap.size w (w12.alloc o))) := fun o => HB12.out.alloc HB12.out.size o
      clear hb12 HX11 HY11 HB11 HRD
      obtain ⟨x0, x1, x2⟩ := HX12.out
      obtain ⟨y0, y1, y2⟩ := HY12.out
      have hx := HX12.out.lt
      have hy := HY12.out.lt
      have hEE : (E2 == E2) = true := by simp
      go_wp2_with (go_at_call 7; refine (HAW.out _ (HB13.out _)).mono ?_; rintro e w14 ⟨rfl, hb14⟩)
      go_ret
      exact ⟨rfl, hb14.out⟩
    · have hEq : (E == 0) = false := by simp [hE0]
      have hEn : (E != 0) = true := by simp [hE0]
      obtain rfl := mk_bad hE.out.symm hE0
      clear hE
      go_wp2_with (go_at_call 7; refine (HAW.out _ HB5).mono ?_; rintro e w9 ⟨rfl, hb9⟩)
      go_ret
      exact ⟨rfl, hb9.out⟩
#print axioms authtokSecrets_walk
end Go.Proofs.YthhcaalafacjlaaDoor
end
