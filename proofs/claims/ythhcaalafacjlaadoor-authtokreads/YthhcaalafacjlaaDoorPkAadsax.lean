/-
  authtok: THE WALK of the statements' secrets.; authtok: THE WALK of the statements' secrets.; THE WALK of AuthtokBack.
-/
import Derived.Test.YthhcaalafacjlaaDoorPkAadsaw
import Derived.Deep.AppendLies
import Derived.Deep.RegionLaw
section
set_option linter.unusedVariables false
set_option maxRecDepth 1000000
namespace Go.Proofs.YthhcaalafacjlaaDoor
open Go.RowKit

/-- A secret with where its bytes lie. -/
abbrev Se := Sec × Option Addr × Nat
def seC (t : Se) : List Value := [.int .i64 t.1.1, .slice t.2.1 t.1.2.length t.2.2]
def ses (l : List Se) : List Value := l.flatMap seC
theorem ses_length (l : List Se) : (ses l).length = l.length * 2 := by
  induction l with
  | nil => rfl
  | cons t r ih => simp [ses, seC] at ih ⊢; omega
theorem ses_append (l r : List Se) : ses (l ++ r) = ses l ++ ses r := by simp [ses]
theorem ses_one (l : List Se) : ∀ u ∈ ses l, u.oneCell' = true := by
  intro u hu
  obtain ⟨t, _, ht⟩ := List.mem_flatMap.1 hu
  simp [seC] at ht
  rcases ht with rfl | rfl <;> rfl
theorem ses_get : ∀ (l : List Se) (i j : Nat) (t : Se), l[i]? = some t → j < 2 → (ses l)[i * 2 + j]? = (seC t)[j]?
  | [], i, j, t, h, _ => by simp at h
  | u :: r, 0, j, t, h, hj => by
    simp at h
    subst h
    show (seC u ++ ses r)[0 * 2 + j]? = _
    rw [List.getElem?_append_left (by simp [seC]; omega)]
    simp
  | u :: r, i + 1, j, t, h, hj => by
    show (seC u ++ ses r)[(i + 1) * 2 + j]? = _
    have e : (i + 1) * 2 + j = (seC u).length + (i * 2 + j) := by simp [seC]; omega
    rw [e, List.getElem?_append_right (by omega), Nat.add_sub_cancel_left]
    exact ses_get r i j t (by simpa using h) hj
def OwnE (w : World) (base : Nat) (a : Option Addr) (cap : Nat) (l : List Se) : Prop := w.ownsRow base 42 2 (.slice a l.length cap) l.length (ses l)
theorem OwnE.cases {w : World} {base : Nat} {a : Option Addr} {cap : Nat} {l : List Se} (h : OwnE w base a cap l) :
    (a = none ∧ cap = 0 ∧ l = []) ∨ ∃ g cur, a = some ⟨g, 0, none⟩ ∧ base ≤ g ∧ w.heap[g]? = some (.cells cur 42 (0, 0)) ∧ l.length ≤ cap ∧ cap ≤ maxLen ∧ cur.size = cap * 2 ∧ cur.toList.take (l.length * 2) = ses l := by
  rcases h.2 with ⟨hv, hn⟩ | ⟨g, cap', cur, hv, hb, hg, hle, hm, hs, ht⟩
  · simp only [Value.slice.injEq] at hv
    exact .inl ⟨hv.1, hv.2.2, List.eq_nil_of_length_eq_zero hn⟩
  · simp only [Value.slice.injEq, true_and] at hv
    obtain ⟨rfl, rfl⟩ := hv
    exact .inr ⟨g, cur, rfl, hb, hg, hle, hm, hs, ht⟩
theorem OwnE.nil (w : World) (base : Nat) : OwnE w base none 0 [] := World.ownsRow_nil w base _ _
theorem OwnE.lt {w : World} {base : Nat} {a : Option Addr} {cap : Nat} {l : List Se} (h : OwnE w base a cap l) : ∀ k, blk a = some k → base ≤ k ∧ k < w.heap.size := by
  intro k hk
  rcases h.cases with ⟨rfl, rfl, rfl⟩ | ⟨g, cur, rfl, hb, hg, _⟩
  · simp [blk] at hk
  · simp [blk] at hk
    subst hk
    exact ⟨hb, (Array.getElem?_eq_some_iff.1 hg).1⟩
theorem OwnE.alloc {w : World} {base : Nat} {a : Option Addr} {cap : Nat} {l : List Se} (h : OwnE w base a cap l) (o : Obj) : OwnE (w.alloc o) base a cap l := World.ownsRow.alloc h o
theorem OwnE.below {w w' : World} {base B : Nat} {a : Option Addr} {cap : Nat} {l : List Se} (h : OwnE w base a cap l) (hb : Below B w w') (hB : w.heap.size ≤ B) : OwnE w' base a cap l := by
  refine ⟨h.1, ?_⟩
  rcases h.2 with hn | ⟨g, cap, cur, hv, hbb, hgg, rest⟩
  · exact .inl hn
  · refine .inr ⟨g, cap, cur, hv, hbb, ?_, rest⟩
    rw [hb.block g (by have := (Array.getElem?_eq_some_iff.1 hgg).1; omega)]
    exact hgg
/-- The bytes of the secrets lie in blocks of their own, apart from the row. -/
def Apt (w : World) (base : Nat) (a : Option Addr) (l : List Se) : Prop := ∀ t ∈ l, OwnB w base t.2.1 t.2.2 t.1.2 ∧ ∀ k, blk t.2.1 = some k → blk a ≠ some k
theorem Apt.below {w w' : World} {base B : Nat} {a : Option Addr} {l : List Se} (h : Apt w base a l) (hb : Below B w w') (hB : w.heap.size ≤ B) : Apt w' base a l := fun t ht => ⟨(h t ht).1.below hb hB, (h t ht).2⟩
theorem OwnE.secR {w : World} {base : Nat} {a : Option Addr} {cap : Nat} {l : List Se} (h : OwnE w base a cap l) (hA : Apt w base a l) (hi : ∀ t ∈ l, -9223372036854775808 ≤ t.1.1 ∧ t.1.1 ≤ 9223372036854775807) : SecR w a (l.map (·.1)) := by
  refine ⟨fun hne => ?_, fun s hs => ?_⟩
  · rcases h.cases with ⟨rfl, rfl, rfl⟩ | ⟨g, cur, rfl, hb, hg, hle, hm, hs, ht⟩
    · simp at hne
    · refine ⟨g, 0, rfl, fun i s hs' => ?_⟩
      rw [List.getElem?_map] at hs'
      obtain ⟨t, ht', rfl⟩ := Option.map_eq_some_iff.1 hs'
      have hlt := (List.getElem?_eq_some_iff.1 ht').1
      have key : ∀ j, j < 2 → w.cell? ⟨g, i * 2 + j, none⟩ = (seC t)[j]? := by
        intro j hj
        rw [cell_of_row w g (i * 2 + j) cur _ (0, 0) hg, ← ses_get l i j t ht' hj, ← ht, List.getElem?_take, if_pos (by omega)]
        simp
      have k0 := key 0 (by omega)
      have k1 := key 1 (by omega)
      refine ⟨t.2.1, t.2.2, ?_, ?_, (hA t (List.mem_of_getElem? ht')).1.toBs⟩
      · rw [Nat.zero_add]; exact k0
      · rw [Nat.zero_add]; exact k1
  · obtain ⟨t, ht, rfl⟩ := List.mem_map.1 hs
    exact hi t ht
theorem Tryd.infoE : (Tryd.prog.info? 42).map (fun i => (i.zero, i.size, i.bytes)) = some (some (.agg #[.int .i64 0, .slice none 0 0]), 2, 32) := by kernel_rfl
theorem news_se {w : World} {B : Nat} {t : Se} (h : w.heap[B]? = some (.cells (seC t).toArray 42 (0, 0))) : ∀ j u, (ses [t])[j]? = some u → w.cell? ((⟨B, 0, none⟩ : Addr).add j) = some u := by
  intro j u hu
  rw [addr_add, Nat.zero_add, cell_of_row w B j _ _ _ h]
  have : ses [t] = seC t := by simp [ses]
  rw [this] at hu
  simpa using hu
theorem ownBlk {a : Option Addr} {n cap : Nat} : (Value.slice a n cap).ownBlock = blk a := by cases a <;> rfl
/-- append(s, secret), as a step of a region that draws its order. -/
theorem stp_appe (w : World) {ops : Array Oper} {o : Oper} {a : Act} {K : Act → World → Prop} {Q : Exit → Act → World → Prop} {E : Prop} (hgd : o.guard = none) (s x : Operand)
    (ho : o.op = .call { callee := .builtin .append, args := #[s, x], argTypes := #[22, 22] })
    (base : Nat) (a1 : Option Addr) (cap1 : Nat) (l1 : List Se) (n1 : Nat) (hs : a.eval s = .slice a1 n1 cap1) (hn1 : n1 = l1.length) (hown : OwnE w base a1 cap1 l1)
    (B c2 : Nat) (t : Se) (hx : a.eval x = .slice (some ⟨B, 0, none⟩) 1 c2) (hsrc : w.heap[B]? = some (.cells (seC t).toArray 42 (0, 0))) (hlen : l1.length ≤ 1000000) (hbase : base ≤ w.heap.size)
    (h : ∀ g cap w', Hid (OwnE w' base (some ⟨g, 0, none⟩) cap (l1 ++ [t])) → Hid (w.grownBy w' (blk a1)) → Hid (blk a1 = some g ∨ g = w.heap.size) → K (a.put o.dst (.slice (some ⟨g, 0, none⟩) (n1 + 1) cap)) w') :
    if Region.wanted o (yielded ops a.tmps) = true then Oper.wp Tryd.prog o a w K Q else E := by
  subst hn1
  obtain ⟨i, hi, hz0, hz1, hz2⟩ := info_parts Tryd.infoE
  refine step_append_lies w hgd s x 22 ho base 42 i _ 2 32 Tryd.underlying22 hi hz0 hz1 hz2 rfl (by decide) _ _ _ hs hown ⟨B, 0, none⟩ 1 c2 (ses [t]) hx (by rw [ses_length]; simp) (news_se hsrc) (ses_one [t]) (by decide) (by unfold maxLen; omega) (by omega) hbase _ rfl ?_
  intro g cap w' h1 h2 h3 h4
  rw [ownBlk] at h2 h3
  refine h g cap w' ?_ h2 h3
  have e1 : l1.length + 1 = (l1 ++ [t]).length := by simp
  show OwnE _ _ _ _ _
  unfold OwnE
  rw [← e1, ses_append]
  exact h1
#print axioms stp_appe
end Go.Proofs.YthhcaalafacjlaaDoor
end
section
set_option linter.unusedVariables false
set_option maxRecDepth 1000000
namespace Go.Proofs.YthhcaalafacjlaaDoor
open Go.RowKit

/-- The row one secret longer. -/
theorem apt_snoc {v w2 w5 : World} {base : Nat} {a : Option Addr} {cap : Nat} {l : List Se} (hO : OwnE v base a cap l) (hA : Apt v base a l) (hb : Below v.heap.size v w2) (o : Obj)
    {s : Sec} {y : Option Addr} {cy : Nat} (hy : OwnB w2 v.heap.size y cy s.2) {g cap' : Nat} (hg : (w2.alloc o).grownBy w5 (blk a)) (hl : blk a = some g ∨ g = (w2.alloc o).heap.size) (hbs : base ≤ v.heap.size) :
    Apt w5 base (some ⟨g, 0, none⟩) (l ++ [(s, y, cy)]) := by
  have hal : ∀ k, blk a = some k → k < v.heap.size := fun k hk => (hO.lt k hk).2
  have hs2 := hb.size
  have hsz : (w2.alloc o).heap.size = w2.heap.size + 1 := by simp
  intro t ht
  rcases List.mem_append.1 ht with ht | ht
  · obtain ⟨h1, h2⟩ := hA t ht
    have h3 : OwnB (w2.alloc o) base t.2.1 t.2.2 t.1.2 := (h1.below hb (Nat.le_refl _)).alloc o
    have hne : blk t.2.1 = none ∨ blk t.2.1 ≠ blk a := by
      cases hk : blk t.2.1 with
      | none => exact .inl rfl
      | some k => exact .inr (fun e => h2 k hk e.symm)
    refine ⟨h3.kept hg hne, fun k hk e => ?_⟩
    obtain rfl : g = k := by simpa [blk] using e
    rcases hl with hl | hl
    · exact h2 g hk hl
    · have := (h1.lt g hk).2
      omega
  · obtain rfl := List.mem_singleton.1 ht
    have h3 : OwnB (w2.alloc o) v.heap.size y cy s.2 := hy.alloc o
    have hne : blk y = none ∨ blk y ≠ blk a := by
      cases hk : blk y with
      | none => exact .inl rfl
      | some k =>
        right
        intro e
        have := hal k e.symm
        have := (hy.lt k hk).1
        omega
    refine ⟨(h3.kept hg hne).base hbs, fun k hk e => ?_⟩
    obtain rfl : g = k := by simpa [blk] using e
    rcases hl with hl | hl
    · have := hal g hl
      have := (hy.lt g hk).1
      omega
    · have := (hy.lt g hk).2
      omega

set_option maxHeartbeats 8000000 in
theorem secrets_any (p : Option Addr) (cp : Nat) (L : List Sec) (w : World) (h : SecR w p L) (hl : L.length ≤ maxLen) :
    Calls Tryd.prog 6 #[.slice p L.length cp] w fun e w' => Hid (Below w.heap.size w w') ∧ (e = .returned (.tuple #[.slice none 0 0, .bool false]) ∨ ∃ a cap, e = .returned (.tuple #[.slice a L.length cap, .bool true]) ∧ Hid (SecR w' a L) ∧ L.length ≤ cap ∧ cap ≤ maxLen ∧ L.length ≤ 21) := by
  have HS := hide h
  clear h
  go_enter Tryd.func6, Tryd.ntmps6
  go_wp2
  go_loopw [4, 9] (fun vo v wr => ∃ (i : Nat) (a : Option Addr) (cap : Nat) (r : List Se), i ≤ L.length ∧ i ≤ 21 ∧ v = .int .i64 (i : Int) ∧ vo = .slice a i cap ∧ Hid (i = r.length) ∧ Hid (r.map (·.1) = L.take i) ∧ Hid (OwnE wr w.heap.size a cap r) ∧ Hid (Apt wr w.heap.size a r) ∧ Hid (Below w.heap.size w wr)) (fun _ v _ => L.length - (intOf v).toNat)
  case atStart => exact ⟨0, none, 0, [], Nat.zero_le _, by omega, rfl, rfl, rfl, rfl, OwnE.nil _ _, (fun t ht => by cases ht), Below.refl _ _⟩
  case round =>
    obtain ⟨i, a, cap, r, hi, hi21, rfl, rfl, hr, hrm, hO, hA, hb⟩ := hrel
    by_cases hlt : i < L.length
    · obtain ⟨s, hs⟩ : ∃ s, L[i]? = some s := ⟨_, List.getElem?_eq_getElem hlt⟩
      obtain ⟨b, off, x, cx, rfl, k0, k1, hB, hbl⟩ := (HS.out.below hb.out (Nat.le_refl _)).at hs
      have hbm := Nat.le_trans hB.le hB.most
      unfold maxLen at hbm
      have HSS := hide hs
      have HBB := hide hB
      obtain ⟨id, bt⟩ := s
      simp only at k0 k1 hbm
      have hi2 : (i : Int) < (L.length : Int) := by omega
      clear hs hB
      by_cases q1 : 20 < i
      · have d1 : decide ((20 : Int) < (i : Int)) = true := decide_eq_true (by omega)
        go_wp2
        go_ret2
        exact ⟨hb.out.alloc hb.out.size _, .inl rfl⟩
      have d1 : decide ((20 : Int) < (i : Int)) = false := decide_eq_false (by omega)
      by_cases q2 : 65536 < bt.length
      · have d2 : decide ((65536 : Int) < (bt.length : Int)) = true := decide_eq_true (by omega)
        go_wp2
        go_ret2
        exact ⟨hb.out.alloc hb.out.size _, .inl rfl⟩
      have d2 : decide ((65536 : Int) < (bt.length : Int)) = false := decide_eq_false (by omega)
      go_wp2
      have HZ : Hid ((wr.alloc (.cells #[.int .i64 id, .slice x bt.length cx] 42)).cell? ⟨wr.heap.size, 0, none⟩ = some (.int .i64 id) ∧ (wr.alloc (.cells #[.int .i64 id, .slice x bt.length cx] 42)).cell? ⟨wr.heap.size, 1, none⟩ = some (.slice x bt.length cx)) := by constructor <;> simp
      have HBv : Hid (Below w.heap.size w (wr.alloc (.cells #[.int .i64 id, .slice x bt.length cx] 42))) := hb.out.alloc hb.out.size _
      have HBx : Hid (Below wr.heap.size wr (wr.alloc (.cells #[.int .i64 id, .slice x bt.length cx] 42))) := (Below.refl _ _).alloc (Nat.le_refl _) _
      have HOv := hide (hO.out.below HBx.out (Nat.le_refl _))
      have HAv := hide (hA.out.below HBx.out (Nat.le_refl _))
      have HBs := hide (HBB.out.below HBx.out (Nat.le_refl _))
      clear HBx hO hA hb k0 k1 HBB hbl
      generalize wr.alloc (.cells #[.int .i64 id, .slice x bt.length cx] 42) = v at *
      generalize wr.heap.size = Z at *
      obtain ⟨z0, z1⟩ := HZ.out
      have hZ : Z < v.heap.size := World.block_lt_of_cell? v _ z0
      have hwv := HBv.out.size
      have HBd : Hid (Bs v.drew x cx bt) := HBs.out.below (Below.refl _ _).drew (Nat.le_refl _)
      have hr20 : r.length ≤ 21 := by rw [← hr.out]; exact hi21
      go_region_law (first
        | (refine stp_appe _ rfl _ _ rfl w.heap.size a cap r i rfl hr.out (HO2.out.alloc _) w2.heap.size 1 ((id, bt), y, cy) rfl (heap_alloc_new w2 _) (by omega) (by simp; omega) ?_; intro g5 c5 w5 ho5 hg5 hl5)
        | (go_simp; go_at_call 19; refine (sclone_big x bt.length cx bt _ HBd.out rfl (by omega)).mono ?_; rintro e w2 ⟨y, cy, r2, rfl, hr2, ho2, hb2⟩; obtain rfl : bt = r2 := hr2.out.symm; have HY := hide ho2; have HB2 : Hid (Below v.heap.size v w2) := Below.trans ((Below.refl _ _).drew) hb2; have HO2 := hide (HOv.out.below HB2.out (Nat.le_refl _)); have z02 : w2.cell? ⟨Z, 0, none⟩ = some (.int .i64 id) := (HB2.out.cell hZ).trans z0; have hs2 := HB2.out.size; clear ho2 hb2 hr2))
      all_goals
        have HA5 := hide (apt_snoc (cap' := c5) (s := (id, bt)) HOv.out HAv.out HB2.out _ HY.out hg5.out hl5.out hwv)
        have HB5 : Hid (Below w.heap.size w w5) := ((HBv.out.trans (HB2.out.mono hwv)).alloc (by have := HB2.out.size; omega) _).grown hg5.out (by simp; omega) (fun k hk => (HO2.out.lt k hk).1)
        have HR5 : Hid ((r ++ [((id, bt), y, cy)]).map (·.1) = L.take (i + 1)) := by show _ = _; rw [List.map_append, hrm.out, List.take_add_one, HSS.out]; rfl
        have HL5 : Hid (i + 1 = (r ++ [((id, bt), y, cy)]).length) := by show _ = _; rw [List.length_append, ← hr.out]; rfl
        clear hg5 hl5 HY HO2 HB2 HAv HOv HBv HBs HBd z0 z1 HSS hrm hr
        go_wp2
        go_roundw
        case rel => exact ⟨i + 1, some ⟨g5, 0, none⟩, c5, r ++ [((id, bt), y, cy)], by omega, by omega, by go_num, rfl, HL5, HR5, ho5, HA5, HB5⟩
        case measure => simp [intOf]; omega
    · obtain rfl : i = L.length := by omega
      rw [List.take_length] at hrm
      have HR : Hid (SecR wr a L) := by
        have := hO.out.secR hA.out (fun t ht => HS.out.int t.1 (by rw [← hrm.out]; exact List.mem_map_of_mem ht))
        rw [hrm.out] at this
        exact this
      have hcap : L.length ≤ cap ∧ cap ≤ maxLen := by
        rcases hO.out.cases with ⟨_, h2, h3⟩ | ⟨_, _, _, _, _, h4, h5, _⟩
        · rw [hr.out, h3, h2]; exact ⟨Nat.le_refl _, by unfold maxLen; omega⟩
        · rw [hr.out]; exact ⟨h4, h5⟩
      have HCP := hide hcap
      clear hcap
      go_wp2
      go_ret2
      exact ⟨hb, .inr ⟨a, cap, rfl, HR, HCP.out.1, HCP.out.2, hi21⟩⟩
#print axioms secrets_any
end Go.Proofs.YthhcaalafacjlaaDoor
end
section
set_option linter.unusedVariables false
set_option maxRecDepth 1000000
namespace Go.Proofs.YthhcaalafacjlaaDoor
open Go.RowKit

theorem mk_ok {L : List Sec} {x : Cl} {t : List UInt8} (h : mkT L x = (0, t)) : ckOk L = true ∧ clOk x = 0 ∧ t = tok (lastS L) x := by
  unfold mkT at h
  split at h
  · simp at h
  · rename_i h1
    split at h
    · rename_i h2
      exact absurd (Prod.mk.inj h).1 h2
    · rename_i h2
      exact ⟨by simpa using h1, by simpa using h2, (Prod.mk.inj h).2.symm⟩
theorem mk_bad {L : List Sec} {x : Cl} {E : Int} {t : List UInt8} (h : mkT L x = (E, t)) (hE : E ≠ 0) : t = [] := by
  unfold mkT at h
  split at h
  · exact (Prod.mk.inj h).2.symm
  · split at h
    · exact (Prod.mk.inj h).2.symm
    · exact absurd (Prod.mk.inj h).1.symm hE
theorem cl_names {x : Cl} (h : clOk x = 0) : x.c.length ≤ 24 ∧ x.g.length ≤ 24 ∧ 0 ≤ x.u ∧ x.u ≤ 1099511627776 := by
  unfold clOk at h
  split at h
  · rename_i hn
    rw [Bool.and_eq_true] at hn
    split at h
    · rename_i hu
      exact ⟨(nm_len hn.1).1, (nm_len hn.2).1, hu.1, hu.2⟩
    · omega
  · omega
theorem tok_len (s : Sec) (x : Cl) (h : clOk x = 0) : (tok s x).length ≤ 400 := by
  have hn := cl_names h
  simp only [tok, List.length_append, List.length_cons, sp_length, mac_length]
  have := pay_len s.1 x
  omega
theorem ok_ne {L : List Sec} (h : ckOk L = true) : L ≠ [] := by
  simp only [ckOk, Bool.and_eq_true, decide_eq_true_eq] at h
  exact h.1.1
theorem rd_last {L : List Sec} {x : Cl} {t : List UInt8} (now : Int) (h : mkT L x = (0, t)) : rdT L now t = if x.u ≤ now then (101, Cl.zero) else (0, x) := by
  obtain ⟨h1, h2, rfl⟩ := mk_ok h
  exact rd_mk L (L.length - 1) (lastS L) x now h1 (last_get L (ok_ne h1)) h2

end Go.Proofs.YthhcaalafacjlaaDoor
end
