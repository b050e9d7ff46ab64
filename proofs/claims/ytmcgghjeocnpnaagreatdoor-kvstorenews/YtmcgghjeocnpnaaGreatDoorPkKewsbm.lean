/-
  kvstore's statements: a call more ahead of a row of calls; what Get says behind a commit.; kvstore's statements: KvstoreWrites.; kvstore's statements: a map of items that is counted; what was written since, as mathematics.; kvstore's statements: KvstoreNews.
-/
import Derived.Test.YtmcgghjeocnpnaaGreatDoorPkKewsbl
import Derived.Deep.Upon
section
set_option linter.unusedVariables false
set_option maxRecDepth 1000000
namespace Go.Proofs.YtmcgghjeocnpnaaGreatDoor
open Go.RowKit Go.Maps Go.MuLone

theorem Tryz.infoD6 : (Tryz.prog.info? 33).map (fun i => (i.zero, i.size, i.bytes)) = some (some (.agg #[.int .i64 0, .slice none 0 0, .slice none 0 0, .int .i64 0]), 4, 64) := by kernel_rfl
def dsC (L : List (D6 × A6)) : List Value := L.flatMap fun x => (DV6.cells x.1 x.2).toList
theorem dsC_length (L : List (D6 × A6)) : (dsC L).length = L.length * 4 := by
  induction L with
  | nil => rfl
  | cons t r ih => simp [dsC, DV6.cells] at ih ⊢; omega
theorem dsC_one (L : List (D6 × A6)) : ∀ u ∈ dsC L, u.oneCell' = true := by
  intro u hu
  obtain ⟨t, _, ht⟩ := List.mem_flatMap.1 hu
  simp [DV6.cells] at ht
  rcases ht with rfl | rfl | rfl | rfl <;> rfl
theorem dsC_get : ∀ (L : List (D6 × A6)) (i j : Nat) (t : D6 × A6), L[i]? = some t → j < 4 → (dsC L)[i * 4 + j]? = (DV6.cells t.1 t.2).toList[j]?
  | [], i, j, t, h, _ => by simp at h
  | u :: r, 0, j, t, h, hj => by
    simp at h
    subst h
    show ((DV6.cells u.1 u.2).toList ++ dsC r)[0 * 4 + j]? = _
    rw [List.getElem?_append_left (by simp [DV6.cells]; omega)]
    simp
  | u :: r, i + 1, j, t, h, hj => by
    show ((DV6.cells u.1 u.2).toList ++ dsC r)[(i + 1) * 4 + j]? = _
    have e : (i + 1) * 4 + j = (DV6.cells u.1 u.2).toList.length + (i * 4 + j) := by simp [DV6.cells]; omega
    rw [e, List.getElem?_append_right (by omega), Nat.add_sub_cancel_left]
    exact dsC_get r i j t (by simpa using h) hj
/-- A row of calls, each with its places. -/
theorem DR6.pairs {w : World} {b off : Nat} {l : List D6} (h : ∀ t d, l[t]? = some d → ∃ a, DV6 w d a ∧ w.cell? ⟨b, off + t * 4, none⟩ = some (.int .i64 d.o) ∧ w.cell? ⟨b, off + t * 4 + 1, none⟩ = some (.slice a.x d.l.length a.c) ∧ w.cell? ⟨b, off + t * 4 + 2, none⟩ = some (.slice a.y d.k.length a.m) ∧ w.cell? ⟨b, off + t * 4 + 3, none⟩ = some (.int .i64 d.n)) :
    ∃ L : List (D6 × A6), L.map (·.1) = l ∧ ∀ t x, L[t]? = some x → DV6 w x.1 x.2 ∧ ∀ j u, (DV6.cells x.1 x.2).toList[j]? = some u → w.cell? ⟨b, off + t * 4 + j, none⟩ = some u := by
  have each : ∀ t : Nat, ∃ a : A6, ∀ d, l[t]? = some d → DV6 w d a ∧ ∀ j u, (DV6.cells d a).toList[j]? = some u → w.cell? ⟨b, off + t * 4 + j, none⟩ = some u := by
    intro t
    cases hd : l[t]? with
    | none => exact ⟨⟨none, 0, none, 0⟩, fun d h' => by cases h'⟩
    | some d =>
      obtain ⟨a, h1, c0, c1, c2, c3⟩ := h t d hd
      refine ⟨a, fun d' h' => ?_⟩
      obtain rfl := Option.some.inj h'
      refine ⟨h1, fun j u hu => ?_⟩
      match j, hu with
      | 0, hu => obtain rfl := Option.some.inj hu; exact c0
      | 1, hu => obtain rfl := Option.some.inj hu; exact c1
      | 2, hu => obtain rfl := Option.some.inj hu; exact c2
      | 3, hu => obtain rfl := Option.some.inj hu; exact c3
      | j + 4, hu => simp [DV6.cells] at hu
  obtain ⟨A, hA⟩ : ∃ A : Nat → A6, ∀ t d, l[t]? = some d → DV6 w d (A t) ∧ ∀ j u, (DV6.cells d (A t)).toList[j]? = some u → w.cell? ⟨b, off + t * 4 + j, none⟩ = some u := ⟨fun t => (each t).choose, fun t => (each t).choose_spec⟩
  refine ⟨l.zipIdx.map (fun x => (x.1, A x.2)), ?_, fun t x hx => ?_⟩
  · rw [List.map_map]
    exact List.zipIdx_map_fst 0 l
  · rw [List.getElem?_map, List.getElem?_zipIdx] at hx
    cases hd : l[t]? with
    | none => rw [hd] at hx; simp at hx
    | some d =>
      rw [hd] at hx
      simp at hx
      subst hx
      exact hA t d hd
theorem dr6_mk {w : World} {g : Nat} {L : List (D6 × A6)} {cur : Array Value} {T : TypeId} (hg : w.heap[g]? = some (.cells cur T (0, 0))) (hc : cur.toList.take (L.length * 4) = dsC L) (hl : L.length ≤ maxLen) (hv : ∀ x ∈ L, DV6 w x.1 x.2) : DR6 w (some ⟨g, 0, none⟩) (L.map (·.1)) := by
  refine ⟨fun _ => ⟨g, 0, rfl, fun t d hd => ?_⟩, by simpa using hl⟩
  rw [List.getElem?_map] at hd
  obtain ⟨x, hx, rfl⟩ : ∃ x, L[t]? = some x ∧ x.1 = d := by
    cases h : L[t]? with
    | none => rw [h] at hd; simp at hd
    | some x => rw [h] at hd; exact ⟨x, rfl, by simpa using hd⟩
  have hlt := (List.getElem?_eq_some_iff.1 hx).1
  have key : ∀ j, j < 4 → w.cell? ⟨g, 0 + t * 4 + j, none⟩ = (DV6.cells x.1 x.2).toList[j]? := by
    intro j hj
    rw [Nat.zero_add, cell_of_row w g (t * 4 + j) cur _ (0, 0) hg, ← dsC_get L t j x hx hj, ← hc, List.getElem?_take, if_pos (by omega)]
    simp
  exact ⟨x.2, hv x (List.mem_of_getElem? hx), key 0 (by omega), key 1 (by omega), key 2 (by omega), key 3 (by omega)⟩
/-- append of a row of calls onto one call. -/
theorem wp_appD (w0 w : World) {ops : Array Oper} {rest : List Oper} {o : Oper} {a : Act} {Q : Exit → Act → World → Prop} (hgd : o.guard = none) (s x : Operand)
    (ho : o.op = .call { callee := .builtin .append, args := #[s, x], argTypes := #[22, 22] })
    (G : Nat) (d0 : D6) (a0 : A6) (hs : a.eval s = .slice (some ⟨G, 0, none⟩) 1 1) (hrow : w.heap[G]? = some (.cells (DV6.cells d0 a0) 33 (0, 0))) (hG : w0.heap.size ≤ G) (hb : Below w0.heap.size w0 w) (hd0 : DV6 w0 d0 a0)
    (p : Option Addr) (c n : Nat) (l : List D6) (hx : a.eval x = .slice p n c) (hn : n = l.length) (hl : DR6 w0 p l) (hlen : l.length * 64 ≤ 140737488351232)
    (h : ∀ g cap r w', Hid (r = l.length + 1) → Hid (DR6 w' (some ⟨g, 0, none⟩) (d0 :: l)) → Hid (Below w0.heap.size w0 w') → wpList Tryz.prog ops Q rest (a.put o.dst (.slice (some ⟨g, 0, none⟩) r cap)) w') : wpList Tryz.prog ops Q (o :: rest) a w := by
  subst hn
  obtain ⟨i, hi, hz0, hz1, hz2⟩ := info_parts Tryz.infoD6
  have hd1 : DV6 w d0 a0 := hd0.below hb (Nat.le_refl _)
  by_cases hne : l = []
  · subst hne
    have hrun : ∀ ty, (Builtin.append_ #[22, 22] ty #[.slice (some ⟨G, 0, none⟩) 1 1, .slice p 0 c]).run Tryz.prog w = .ok (.slice (some ⟨G, 0, none⟩) 1 1) w := by
      intro ty
      refine run_append_nothing w _ _ ty 33 i Tryz.underlying22 hi _ 1 1 (Nat.le_refl _) _ ?_
      cases p with
      | none => exact Src.ofNil w Tryz.underlying22 c
      | some ad => exact Src.ofSlice w Tryz.underlying22 ad 0 c [] (by simp) (fun j u hu => by simp at hu) (fun u hu => by cases hu)
    refine Lib.wpList_append_run w hgd s x _ _ ho _ _ hs hx _ _ (hrun _) ?_
    exact h G 1 1 w rfl (dr6_mk (L := [(d0, a0)]) hrow (by simp [dsC, DV6.cells]) (by simp [maxLen]) (fun x hx => by obtain rfl := List.mem_singleton.1 hx; exact hd1)) hb
  · obtain ⟨b, off, rfl, hc⟩ := hl.mem hne
    obtain ⟨L, hL1, hL2⟩ := DR6.pairs hc
    have hLl : L.length = l.length := by rw [← hL1]; simp
    have kk : ∀ {q : Addr} {v : Value}, w0.cell? q = some v → w.cell? q = some v := fun {q v} e => by
      rw [hb.cell (World.block_lt_of_cell? w0 _ e)]; exact e
    have hown : w.ownsRow w0.heap.size 33 4 (.slice (some ⟨G, 0, none⟩) 1 1) 1 (dsC [(d0, a0)]) := by
      refine ⟨by rw [dsC_length]; rfl, .inr ⟨G, 1, _, rfl, hG, hrow, Nat.le_refl _, by simp [maxLen], rfl, by simp [dsC, DV6.cells]⟩⟩
    refine wpList_append_own w hgd s x 22 ho w0.heap.size 33 i _ 4 64 Tryz.underlying22 hi hz0 hz1 hz2 rfl (by decide) _ _ _ hs hown ⟨b, off, none⟩ l.length c (dsC L) hx (by rw [dsC_length, hLl]) ?_ (dsC_one L) (by unfold maxLen; omega) (by omega) hb.size ?_
    · intro j u hu
      obtain ⟨t, r, hjr, hr4⟩ : ∃ t r, j = t * 4 + r ∧ r < 4 := ⟨j / 4, j % 4, by omega, by omega⟩
      subst hjr
      have hj := (List.getElem?_eq_some_iff.1 hu).1
      rw [dsC_length] at hj
      obtain ⟨x, hx⟩ : ∃ x, L[t]? = some x := ⟨_, List.getElem?_eq_getElem (by omega)⟩
      rw [dsC_get L t r x hx hr4] at hu
      rw [addr_add]
      have := kk ((hL2 t x hx).2 r u hu)
      rw [Nat.add_assoc] at this
      exact this
    · intro v' w' h1 h2 h3
      have e2 : dsC [(d0, a0)] ++ dsC L = dsC ((d0, a0) :: L) := by simp [dsC]
      rw [e2] at h1
      have hb' : Below w0.heap.size w0 w' := below_grown (a := some ⟨G, 0, none⟩) hb h2 (Nat.le_refl _) (fun k hk => by simp [blk] at hk; omega)
      rcases h1.2 with ⟨hv, hn⟩ | ⟨g, cap, cur, hv, hbb, hg, hle, hm, hs4, ht⟩
      · omega
      · subst hv
        refine h g cap (1 + l.length) w' (by show _ = _; omega) ?_ hb'
        have e3 : (d0 :: l) = ((d0, a0) :: L).map (·.1) := by simp [hL1]
        rw [e3]
        refine dr6_mk hg (by rw [List.length_cons, hLl, Nat.add_comm]; exact ht) (by rw [List.length_cons, hLl]; unfold maxLen; omega) (fun x hx => ?_)
        rcases List.mem_cons.1 hx with rfl | hx
        · exact hd0.below hb' (Nat.le_refl _)
        · obtain ⟨t, ht'⟩ := List.getElem?_of_mem hx
          exact (hL2 t x ht').1.below hb' (Nat.le_refl _)
#print axioms wp_appD
/-! ### what Get says behind a commit -/
theorem put_miss {n : Nm} : ∀ {l : List Im} {f : Its}, (∀ x ∈ l, x.k ≠ n) → f.put l n = f n := by
  intro l
  induction l with
  | nil => intro f _; rfl
  | cons a r ih =>
    intro f h
    show Its.put (upd f a.k (some a)) r n = f n
    rw [ih (fun x hx => h x (List.mem_cons_of_mem _ hx))]
    exact upd_other _ _ _ _ (Ne.symm (h a List.mem_cons_self))
theorem put_hit : ∀ {l : List Im} {f : Its} {k : Nat} {x : Im}, l[k]? = some x → (∀ j y, k < j → l[j]? = some y → y.k ≠ x.k) → f.put l x.k = some x := by
  intro l
  induction l with
  | nil => intro f k x h; simp at h
  | cons a r ih =>
    intro f k x h hd
    show Its.put (upd f a.k (some a)) r x.k = some x
    cases k with
    | zero =>
      simp at h
      subst h
      rw [put_miss (fun y hy => ?_)]
      · exact upd_same _ _ _
      · obtain ⟨j, hj⟩ := List.getElem?_of_mem hy
        exact hd (j + 1) y (by omega) (by simpa using hj)
    | succ k => exact ih (by simpa using h) (fun j y hj hy => hd (j + 1) y (by omega) (by simpa using hy))
theorem wr_hit {f : Its} {l : List Op6} {t k : Nat} {o : Op6} (hl : OkO l) (h : l[k]? = some o) : f.put (wrI l t) o.k = some ⟨o.k, o.g, o.v, t⟩ := by
  refine put_hit (k := k) (x := ⟨o.k, o.g, o.v, t⟩) (by unfold wrI; rw [List.getElem?_map, h]; rfl) (fun j y hj hy => ?_)
  unfold wrI at hy
  rw [List.getElem?_map] at hy
  cases hp : l[j]? with
  | none => rw [hp] at hy; simp at hy
  | some q =>
    rw [hp] at hy
    simp at hy
    subst hy
    exact (hl.apart k j o q hj h hp).symm
theorem wr_miss {f : Its} {l : List Op6} {t : Nat} {n : Nm} (h : ∀ o ∈ l, o.k ≠ n) : f.put (wrI l t) n = f n := put_miss (fun x hx => by
  obtain ⟨o, ho, rfl⟩ := List.mem_map.1 hx
  exact h o ho)
#print axioms wr_hit
end Go.Proofs.YtmcgghjeocnpnaaGreatDoor
end
section
set_option linter.unusedVariables false
set_option maxRecDepth 1000000
namespace Go.Proofs.YtmcgghjeocnpnaaGreatDoor
open Go.RowKit Go.Maps Go.MuLone

theorem eqM (x : Im) (w : World) : (binOp .eql 47 (.agg #[.string (str x.k), .bool x.g, .string (str x.v), .int .i64 (x.t : Int)]) (.agg #[.string (str x.k), .bool x.g, .string (str x.v), .int .i64 (x.t : Int)])).run Tryz.prog w = .ok (.bool true) w := by
  have hS : Tryz.prog.underlying 47 = some (.struct (Tryz.prog.fieldsOf 47)) := by kernel_rfl
  have hp : Tryz.prog.stoodInHeld 47 = false := by kernel_rfl
  rw [run_eql_struct, show (10000 : Nat) = 9999 + 1 from rfl, run_equalIn_agg w 9999 47 _ _ hS hp]
  simp only [Program.fieldsOf, Tryz.underlying47]
  have u9 := Tryz.underlying9
  have u4 := Tryz.underlying4
  have u3 := Tryz.underlying3
  have t1 : (str x.k).toList = x.k := toList_str x.k
  have t2 : (str x.v).toList = x.v := toList_str x.v
  go_simp
/-- A box with an item that belongs to no store. -/
structure Bx6 (w : World) (g : Nat → Tg) (Z : Nat) (x : Im) : Prop where
  row : w.heap[Z]? = some (.cells #[.string (str x.k), .bool x.g, .string (str x.v), .int .i64 (x.t : Int)] 47 (0, 0))
  tg : g Z = .o
theorem Bx6.lt {w : World} {g : Nat → Tg} {Z : Nat} {x : Im} (h : Bx6 w g Z x) : Z < w.heap.size := (Array.getElem?_eq_some_iff.1 h.row).1
theorem Bx6.fr {w w' : World} {g g' : Nat → Tg} {Z : Nat} {x : Im} (h : Bx6 w g Z x) (f : Fr w w' g g') : Bx6 w' g' Z x := ⟨(f.block Z h.lt (.inl h.tg)).trans h.row, (f.ag Z h.lt).trans h.tg⟩
/-- A store behind the commit, and what the key had ahead of it. -/
def WrL (w0 w : World) (Q : Nat) (f1 : Its) (V1 n Z : Nat) (X : Im) (key : Nm) (ops : List Op6) (k : Nat) : Prop :=
  (∃ g S K, KP w0 w g Q S f1 V1 K n ∧ Bx6 w g Z X) ∧ ∀ j o, j < k → ops[j]? = some o → o.k ≠ key
theorem since_same {f : Its} {p : Im → Bool} {l l' : List Im} (h : Gth f p (fun _ => false) l ∧ Rise l) (h' : Gth f p (fun _ => false) l' ∧ Rise l') : l = l' :=
  rise_one h.2 h'.2 (fun x => (gth_iff h.1 x).trans (gth_iff h'.1 x).symm)
theorem gt_hit {f : Its} {n : Nm} {x : Im} (h : f n = some x) : gtI f n = (if x.g then zI else x) ∧ gtB f n = !x.g := by
  unfold gtI gtB
  rw [h]
  exact ⟨rfl, rfl⟩
theorem gt_same {f f' : Its} {n : Nm} (h : f n = f' n) : gtI f n = gtI f' n ∧ gtB f n = gtB f' n := by
  unfold gtI gtB
  rw [h]
  exact ⟨rfl, rfl⟩
theorem short_cons {d : D6} {l : List D6} (h : shr6 (d :: l) = true) : (l.length ≤ 60 ∧ sumN l ≤ 2000 ∧ sumB l ≤ 262144) ∧ opsB d.l ≤ 262144 ∧ l.length ≤ 59 := by
  obtain ⟨h1, h2, h3⟩ := shr6_sum h
  have e1 : sumN (d :: l) = d.l.length + sumN l := by simp [sumN]
  have e2 : sumB (d :: l) = opsB d.l + sumB l := by simp [sumB]
  simp only [List.length_cons] at h1
  exact ⟨⟨by omega, by omega, by omega⟩, by omega, by omega⟩
set_option maxHeartbeats 16000000 in
theorem writes6 (w : World) (p : Option Addr) (c : Nat) (l : List D6) (q : Option Addr) (qc : Nat) (ops : List Op6) (key : Nm) (h : DR6 w p l) (hl : l.length * 64 ≤ 140737488351232) (ho : OpR6 w q ops) (hkey : key.length ≤ maxLen) (hE : EnvS w) :
    Calls Tryz.prog 5 #[.slice p l.length c, .slice q ops.length qc, .string (str key)] w fun e w' => e = .returned (.bool true) ∧ Hid (Below w.heap.size w w') := by
  have HAW : Hid (∀ u, Below w.heap.size w u → Calls Tryz.prog 10 #[] u fun e w' => e = .returned (.bool true) ∧ Hid (Below w.heap.size w w')) := fun u hu => awake6 w (fun _ => .o) u hE ⟨hu, fun _ _ => rfl⟩
  have HBG : Hid (∀ u, Below w.heap.size w u → Calls Tryz.prog 11 #[.int .i64 16777216] u fun e w' => ∃ D Q, e = .returned (.tuple #[.pointer (some ⟨D, 0, none⟩), .pointer (some ⟨Q, 0, none⟩), .bool true]) ∧ Hid (KS0 w w' Q 16777216)) := fun u hu => begun6 w (fun _ => .o) 16777216 u hE ⟨hu, fun _ _ => rfl⟩ (by omega) (by omega)
  have HE := hide hE
  have HH := hide h
  have HOP := hide ho
  have HKY := hide hkey
  have hle := h.le
  have hole := ho.le
  unfold maxLen at hle hole
  have HD0 : Hid (DV6 w ⟨0, ops, [], 0⟩ ⟨q, qc, none, 0⟩) := ⟨ho, fun e => absurd rfl e, Nat.zero_le _⟩
  clear h hE ho hkey
  go_enter Tryz.func5, Tryz.ntmps5
  go_wp2_with (at_builtin; refine wp_appD w _ rfl _ _ rfl w.heap.size ⟨0, ops, [], 0⟩ ⟨q, qc, none, 0⟩ rfl (heap_alloc_new _ _) (Nat.le_refl _) ((Below.refl _ _).alloc (Nat.le_refl _) _) (unhide HD0) p c _ l rfl rfl (unhide HH) hl ?_)
  intro g1 cap1 r1 w1 HR1 HD1 HB1
  have hsh := short6 (some ⟨g1, 0, none⟩) cap1 (⟨0, ops, [], 0⟩ :: l) w1 (unhide HD1)
  rw [show (⟨0, ops, [], 0⟩ :: l : List D6).length = r1 from (unhide HR1).symm] at hsh
  have HSH := hide hsh
  clear hsh HD1 HR1 HD0
  generalize hsl : shr6 (⟨0, ops, [], 0⟩ :: l) = sl at *
  have HSL := hide hsl
  clear hsl
  go_wp2_with fail
  refine (unhide HSH).mono ?_
  rintro e w2 ⟨rfl, HB2⟩
  have HB3 : Hid (Below w.heap.size w w2) := (unhide HB1).trans ((unhide HB2).mono (unhide HB1).size)
  clear HSH HB1 HB2
  have HAA := hide (unhide HAW w2 (unhide HB3))
  cases sl with
  | false =>
    go_wp2_with fail
    refine (unhide HAA).mono ?_
    rintro e wz ⟨rfl, HBz⟩
    go_wp2_with fail
    go_ret
    exact ⟨rfl, HBz⟩
  | true =>
    have hsum := short_cons (unhide HSL)
    have HSM := hide hsum.1
    have hopb := hsum.2.1
    have hl59 := hsum.2.2
    clear hsum
    simp only at hopb
    have HOB := hide hopb
    clear hopb
    have HBB := hide (unhide HBG w2 (unhide HB3))
    go_wp2_with fail
    refine (unhide HBB).mono ?_
    rintro e w3 ⟨D, Q, rfl, HK0⟩
    have HL0 : Hid (LpS w w3 Q l 0) := LpS.start l (unhide HK0)
    clear HBB HK0 HBG HAW HAA HB3
    go_wp2_with fail
    go_loopw [42] (fun i wr => ∃ k : Nat, k ≤ l.length ∧ i = .int .i64 (k : Int) ∧ Hid (LpS w wr Q l k)) (fun i _ => l.length - (intOf i).toNat)
    case atStart => exact ⟨0, Nat.zero_le _, rfl, HL0⟩
    case round =>
      clear HL0
      obtain ⟨k, hk, rfl, HL⟩ := hrel
      by_cases hlt : k < l.length
      · have hlt' : (k : Int) < (l.length : Int) := by omega
        obtain ⟨d, hd⟩ : ∃ d, l[k]? = some d := ⟨_, List.getElem?_eq_getElem hlt⟩
        have hbw : Below w.heap.size w wr := by
          obtain ⟨g, S, f, v, n, h1, _⟩ := unhide HL
          exact h1.lw.below
        obtain ⟨b, off, rfl, hc⟩ := (unhide HH).mem (by intro e; subst e; simp at hd)
        obtain ⟨a, hv, c0, c1, c2, c3⟩ := hc k d hd
        have kk : ∀ {q : Addr} {v : Value}, w.cell? q = some v → wr.cell? q = some v := fun {q v} e => by
          rw [hbw.cell (World.block_lt_of_cell? w _ e)]; exact e
        have k0 := kk c0
        have k1 := kk c1
        have k2 := kk c2
        have k3 := kk c3
        obtain ⟨W, hW⟩ : ∃ W, W = wr.alloc (.cells #[.int .i64 d.o, .slice a.x d.l.length a.c, .slice a.y d.k.length a.m, .int .i64 d.n] 33) := ⟨_, rfl⟩
        obtain ⟨Z, hZ⟩ : ∃ Z, Z = wr.heap.size := ⟨_, rfl⟩
        have hbW : Below wr.heap.size wr W := by rw [hW]; exact (Below.refl _ _).alloc (Nat.le_refl _) _
        have hrW : W.heap[Z]? = some (.cells #[.int .i64 d.o, .slice a.x d.l.length a.c, .slice a.y d.k.length a.m, .int .i64 d.n] 33 (0, 0)) := by rw [hZ, hW]; exact heap_alloc_new _ _
        have d1 : W.cell? ⟨Z, 1, none⟩ = some (.slice a.x d.l.length a.c) := cell_of_row _ _ _ _ _ _ hrW
        have HCM := hide (commitL w wr W Q l k d a.x a.c (unhide HE) (unhide HL) (unhide HSM) hd hbW hv.l)
        clear kk c0 c1 c2 c3 hc hv hrW hbW hbw hd
        go_upto_region 9 with fail
        rw [← hW, ← hZ]
        clear hW hZ k0 k1 k2 k3
        go_wp2_with fail
        refine (unhide HCM).mono ?_
        rintro e w4 ⟨x, E, rfl, HL3⟩
        clear HCM
        go_wp2_with fail
        go_roundw
        case rel => exact ⟨k + 1, by omega, by go_num, HL3⟩
        case measure => simp [intOf]; omega
      · obtain rfl : k = l.length := by omega
        obtain ⟨g0, S, f, v, n, q1, q2⟩ := unhide HL
        have hn : n ≤ 2000 := by have := sumN_takeLe l l.length; have := (unhide HSM).2.1; omega
        have HN := hide hn
        have hvk := q1.vk
        have HK := hide q1
        generalize hK9 : l.length = K9 at *
        have HK9 : Hid (K9 ≤ 59) := hl59
        have hv : v ≤ 59 := by omega
        clear q1 q2 HL hn hK9 hvk hl59
        have HV1 := hide (version_kp w g0 Q S f v K9 n wr (unhide HK))
        go_wp2_with fail
        refine (unhide HV1).mono ?_
        rintro e w4 ⟨rfl, HK4, HF4⟩
        clear HV1 HK HF4
        have HV2 := hide (bytes_kp w g0 Q S f v K9 n w4 (unhide HK4) (by have := unhide HK9; omega))
        go_wp2_with fail
        refine (unhide HV2).mono ?_
        rintro e w5 ⟨rfl, HK5, HF5⟩
        clear HV2 HK4 HF5
        have HV3 := hide (since_r w g0 Q S f v K9 n 0 w5 (unhide HK5) (by have := unhide HN; omega))
        go_wp2_with fail
        refine (unhide HV3).mono ?_
        rintro e w6 ⟨a1, c1, l1, g6, rfl, HK6, HR6, HF6, HG6, hl1⟩
        clear HV3 HK5 HF6
        have hgk := get_kp w g6 Q S f v K9 n key w6 (unhide HK6) (unhide HKY)
        generalize hX : gtI f key = X at hgk
        generalize hXb : gtB f key = Xb at hgk
        rw [show imA X = .agg #[.string (str X.k), .bool X.g, .string (str X.v), .int .i64 (X.t : Int)] from rfl] at hgk
        have HX : Hid (gtI f key = X ∧ gtB f key = Xb) := ⟨hX, hXb⟩
        have HV4 := hide hgk
        clear hgk hX hXb
        go_wp2_with fail
        refine (unhide HV4).mono ?_
        rintro e w7 ⟨rfl, HQ7⟩
        obtain ⟨g7, k7, f7⟩ := unhide HQ7
        obtain ⟨W8, hW8⟩ : ∃ W, W = w7.alloc (.cells #[.string (str X.k), .bool X.g, .string (str X.v), .int .i64 (X.t : Int)] 47) := ⟨_, rfl⟩
        obtain ⟨Z, hZ⟩ : ∃ Z, Z = w7.heap.size := ⟨_, rfl⟩
        have b8 : Below w7.heap.size w7 W8 := by rw [hW8]; exact (Below.refl _ _).alloc (Nat.le_refl _) _
        have HK8 : Hid (KP w W8 (gO w7 g7) Q S f v K9 n) := k7.tag.below b8
        have HR8 : Hid (R6 W8 (gO w7 g7) a1 c1 l1) := ((unhide HR6).fr f7).fr (fr_tag g7 b8)
        have HX8 : Hid (Bx6 W8 (gO w7 g7) Z X) := ⟨by rw [hZ, hW8]; exact heap_alloc_new _ _, gO_ge (by omega)⟩
        generalize gO w7 g7 = g8 at *
        clear HV4 HQ7 k7 f7 HK6 HR6 b8
        have HCM := hide (commit_kp w g8 Q S f v K9 n q qc ops W8 (unhide HE) (unhide HK8) (unhide HOP) (by have := unhide HK9; omega) (by have := unhide HN; omega) (unhide HOB))
        go_upto_region 14 with fail
        rw [← hW8, ← hZ]
        clear hW8 hZ
        go_wp2_with fail
        refine (unhide HCM).mono ?_
        rintro e w9 ⟨x, E, rfl, HC9⟩
        clear HCM HK8
        obtain ⟨g9, f9, hor⟩ := unhide HC9
        have HR9 := hide ((unhide HR8).fr f9)
        have HX9 := hide ((unhide HX8).fr f9)
        clear HR8 HX8 HC9 f9
        rcases hor with ⟨hE0, rfl, k9⟩ | ⟨rfl, hx, okl, S', k9⟩
        · have hE2 : (E == 0) = false := by rw [beq_eq_false_iff_ne]; exact hE0
          have HK9b := hide k9
          clear k9
          have HV1 := hide (version_kp w g9 Q S f v (K9 + 1) n w9 (unhide HK9b))
          go_wp2_with fail
          refine (unhide HV1).mono ?_
          rintro e y1 ⟨rfl, HY1, HFY1⟩
          have HRY1 := hide ((unhide HR9).fr (unhide HFY1))
          clear HV1 HFY1 HR9 HX9 HK9b
          have HV2 := hide (bytes_kp w g9 Q S f v (K9 + 1) n y1 (unhide HY1) (by have := unhide HK9; omega))
          go_wp2_with fail
          refine (unhide HV2).mono ?_
          rintro e y2 ⟨rfl, HY2, HFY2⟩
          have HRY2 := hide ((unhide HRY1).fr (unhide HFY2))
          clear HV2 HFY2 HRY1 HY1
          have HV3 := hide (since_r w g9 Q S f v (K9 + 1) n 0 y2 (unhide HY2) (by have := unhide HN; omega))
          go_wp2_with fail
          refine (unhide HV3).mono ?_
          rintro e y3 ⟨a2, c2, l2, g10, rfl, HY3, HRY3, HFY3, HGY3, hl2⟩
          have HRY4 := hide ((unhide HRY2).fr (unhide HFY3))
          obtain rfl : l1 = l2 := since_same (unhide HG6) (unhide HGY3)
          have HEQ := hide (equal_im a2 a1 c2 c1 l1 y3 (unhide HRY3).ow (unhide HRY4).ow hl1)
          clear HV3 HFY3 HRY2 HRY4 HRY3 HY2 HG6 HGY3
          go_wp2_with fail
          refine (unhide HEQ).mono ?_
          rintro e y4 ⟨rfl, HBx⟩
          have HAK := hide (awake_kp (unhide HE) ((unhide HY3).below (unhide HBx)))
          clear HEQ HY3 HBx
          go_wp2_with fail
          refine (unhide HAK).mono ?_
          rintro e wz ⟨rfl, HBz⟩
          go_wp2_with fail
          go_ret
          exact ⟨rfl, HBz⟩
        · obtain ⟨V1, hV1⟩ : ∃ V1, V1 = v + 1 := ⟨_, rfl⟩
          rw [← hV1] at hx k9
          have hv1 : (v : Int) + 1 = (V1 : Int) := by omega
          have hVb : V1 ≤ 100 := by omega
          subst hx
          obtain ⟨f1, hf1⟩ : ∃ f1, f1 = f.put (wrI ops V1) := ⟨_, rfl⟩
          rw [← hf1] at k9
          have HHIT : Hid (∀ (k : Nat) (o : Op6), ops[k]? = some o → f1 o.k = some ⟨o.k, o.g, o.v, V1⟩) := fun k o hko => by rw [hf1]; exact wr_hit okl hko
          have HMIS : Hid ((∀ o ∈ ops, o.k ≠ key) → f1 key = f key) := fun hm => by rw [hf1]; exact wr_miss hm
          have HOL : Hid (ops.length ≤ 256) := okl.n2
          clear hf1 hV1 okl
          have HK9b := hide k9
          clear k9
          have HV1 := hide (version_kp w g9 Q S' f1 V1 (K9 + 1) (n + ops.length) w9 (unhide HK9b))
          go_wp2_with fail
          refine (unhide HV1).mono ?_
          rintro e y1 ⟨rfl, HY1, HFY1⟩
          have HXY1 := hide ((unhide HX9).fr (unhide HFY1))
          clear HV1 HR9 HX9 HK9b HFY1 HG6
          obtain ⟨n1, hn1⟩ : ∃ n1, n1 = n + ops.length := ⟨_, rfl⟩
          rw [← hn1] at HY1
          clear hn1
          have HW0 : Hid (WrL w y1 Q f1 V1 n1 Z X key ops 0) := ⟨⟨g9, S', K9 + 1, unhide HY1, unhide HXY1⟩, fun j o hj => by omega⟩
          clear HY1 HXY1
          go_wp2_with fail
          go_loopw [106] (fun i wr => ∃ k : Nat, k ≤ ops.length ∧ i = .int .i64 (k : Int) ∧ Hid (WrL w wr Q f1 V1 n1 Z X key ops k)) (fun i _ => ops.length - (intOf i).toNat)
          case atStart => exact ⟨0, Nat.zero_le _, rfl, HW0⟩
          case round =>
            clear HW0
            obtain ⟨k, hk, rfl, HL⟩ := hrel
            by_cases hlt : k < ops.length
            · have hlt' : (k : Int) < (ops.length : Int) := by omega
              obtain ⟨o, ho⟩ : ∃ o, ops[k]? = some o := ⟨_, List.getElem?_eq_getElem hlt⟩
              obtain ⟨⟨g, S9, K8, h1, h2⟩, h3⟩ := unhide HL
              have HL3 := hide h3
              have hbw : Below w.heap.size w wr := h1.lw.below
              obtain ⟨b, off, rfl, hc⟩ := (unhide HOP).mem (by intro e; subst e; simp at ho)
              obtain ⟨c0, c1', c2⟩ := hc k o ho
              have kk : ∀ {q : Addr} {v : Value}, w.cell? q = some v → wr.cell? q = some v := fun {q v} e => by
                rw [hbw.cell (World.block_lt_of_cell? w _ e)]; exact e
              have k0 := kk c0
              have k1 := kk c1'
              have k2 := kk c2
              obtain ⟨W, hW⟩ : ∃ W, W = wr.alloc (.cells #[.string (str o.k), .bool o.g, .string (str o.v)] 55) := ⟨_, rfl⟩
              obtain ⟨Y, hY⟩ : ∃ Y, Y = wr.heap.size := ⟨_, rfl⟩
              have hbW : Below wr.heap.size wr W := by rw [hW]; exact (Below.refl _ _).alloc (Nat.le_refl _) _
              have hrW : W.heap[Y]? = some (.cells #[.string (str o.k), .bool o.g, .string (str o.v)] 55 (0, 0)) := by rw [hY, hW]; exact heap_alloc_new _ _
              have HKW : Hid (KP w W (gO wr g) Q S9 f1 V1 K8 n1) := h1.tag.below hbW
              have HXW : Hid (Bx6 W (gO wr g) Z X) := h2.fr (fr_tag g hbW)
              have HRW : Hid (W.heap[Y]? = some (.cells #[.string (str o.k), .bool o.g, .string (str o.v)] 55 (0, 0)) ∧ gO wr g Y = .o ∧ Y < W.heap.size) := ⟨hrW, gO_ge (by omega), (Array.getElem?_eq_some_iff.1 hrW).1⟩
              generalize gO wr g = g2 at *
              have d0 : W.cell? ⟨Y, 0, none⟩ = some (.string (str o.k)) := cell_of_row _ _ _ _ _ _ hrW
              obtain ⟨sk, sv⟩ := (unhide HOP).sz o (List.mem_of_getElem? ho)
              have HSV := hide sv
              have hgk := get_kp w g2 Q S9 f1 V1 K8 n1 o.k W (unhide HKW) sk
              obtain ⟨gi, gb⟩ := gt_hit (unhide HHIT k o ho)
              rw [gi, gb] at hgk
              have HO := hide ho
              clear kk c0 c1' c2 hc hrW hbW hbw ho h1 h2 h3 gi gb sk sv
              obtain ⟨x9, hx9⟩ : ∃ x9 : Im, (if o.g then zI else (⟨o.k, o.g, o.v, V1⟩ : Im)) = x9 := ⟨_, rfl⟩
              have hx9' : (if (⟨o.k, o.g, o.v, V1⟩ : Im).g then zI else (⟨o.k, o.g, o.v, V1⟩ : Im)) = x9 := hx9
              rw [hx9', show imA x9 = .agg #[.string (str x9.k), .bool x9.g, .string (str x9.v), .int .i64 (x9.t : Int)] from rfl] at hgk
              have hgk' : Calls Tryz.prog 23 #[.pointer (some ⟨Q, 0, none⟩), .string (str o.k)] W fun e w' => e = .returned (.tuple #[.agg #[.string (str x9.k), .bool x9.g, .string (str x9.v), .int .i64 (x9.t : Int)], .bool (!o.g)]) ∧ Hid (∃ g', KP w w' g' Q S9 f1 V1 K8 n1 ∧ Fr W w' g2 g') := hgk
              have HGK := hide hgk'
              have HX9 := hide hx9
              clear hgk hgk' hx9 hx9'
              go_upto_region 22 with fail
              rw [← hW, ← hY]
              clear hW hY k0 k1 k2
              go_wp2_with fail
              refine (unhide HGK).mono ?_
              rintro e u1 ⟨rfl, HU⟩
              obtain ⟨g3, k3, f3⟩ := unhide HU
              have HXU := hide ((unhide HXW).fr f3)
              obtain ⟨U2, hU2⟩ : ∃ U2, U2 = u1.alloc (.cells #[.string (str x9.k), .bool x9.g, .string (str x9.v), .int .i64 (x9.t : Int)] 47) := ⟨_, rfl⟩
              obtain ⟨Y2, hY2⟩ : ∃ Y2, Y2 = u1.heap.size := ⟨_, rfl⟩
              have hb2 : Below u1.heap.size u1 U2 := by rw [hU2]; exact (Below.refl _ _).alloc (Nat.le_refl _) _
              have hr2 : U2.heap[Y2]? = some (.cells #[.string (str x9.k), .bool x9.g, .string (str x9.v), .int .i64 (x9.t : Int)] 47 (0, 0)) := by rw [hY2, hU2]; exact heap_alloc_new _ _
              have hrY : U2.heap[Y]? = some (.cells #[.string (str o.k), .bool o.g, .string (str o.v)] 55 (0, 0)) := by
                obtain ⟨z1, z2, z3⟩ := unhide HRW
                rw [hb2.block Y (Nat.lt_of_lt_of_le z3 f3.size), f3.block Y z3 (.inl z2)]
                exact z1
              have m0 : U2.cell? ⟨Y, 0, none⟩ = some (.string (str o.k)) := cell_of_row _ _ _ _ _ _ hrY
              have m1 : U2.cell? ⟨Y, 1, none⟩ = some (.bool o.g) := cell_of_row _ _ _ _ _ _ hrY
              have m2 : U2.cell? ⟨Y, 2, none⟩ = some (.string (str o.v)) := cell_of_row _ _ _ _ _ _ hrY
              have p0 : U2.cell? ⟨Y2, 0, none⟩ = some (.string (str x9.k)) := cell_of_row _ _ _ _ _ _ hr2
              have p1 : U2.cell? ⟨Y2, 1, none⟩ = some (.bool x9.g) := cell_of_row _ _ _ _ _ _ hr2
              have p2 : U2.cell? ⟨Y2, 2, none⟩ = some (.string (str x9.v)) := cell_of_row _ _ _ _ _ _ hr2
              have p3 : U2.cell? ⟨Y2, 3, none⟩ = some (.int .i64 (x9.t : Int)) := cell_of_row _ _ _ _ _ _ hr2
              have HKU : Hid (KP w U2 g3 Q S9 f1 V1 K8 n1) := k3.below hb2
              have HXV : Hid (Bx6 U2 g3 Z X) := (unhide HXU).fr ((Fr.refl _ g3).bel hb2)
              clear HGK HU k3 f3 HXU HXW HKW HRW hb2 hr2 hrY d0
              go_upto_region 23 with fail
              rw [← hU2, ← hY2]
              clear hU2 hY2
              have HAK := hide (awake_kp (unhide HE) (unhide HKU))
              have HREL : Hid (o.k ≠ key → WrL w U2 Q f1 V1 n1 Z X key ops (k + 1)) := fun hne => ⟨⟨g3, S9, K8, unhide HKU, unhide HXV⟩, fun j o' hj ho' => by
                by_cases e : j < k
                · exact unhide HL3 j o' e ho'
                · obtain rfl : j = k := by omega
                  have z := unhide HO
                  rw [ho'] at z
                  obtain rfl := Option.some.inj z
                  exact hne⟩
              clear HKU HXV HL3 HO HL
              obtain ⟨bq, hbq⟩ : ∃ bq, ((str o.k).toList == (str key).toList) = bq := ⟨_, rfl⟩
              have HNE : Hid (bq = false → o.k ≠ key) := fun hb e => by
                rw [toList_str, toList_str, e] at hbq
                rw [← hbq] at hb
                simp at hb
              have hg : Tryz.prog.eqGuardType Tryz.prog.depth 47 = false := by kernel_rfl
              have kq := neqM x9
              obtain ⟨ok, og, ov⟩ := o
              simp only at HX9 m0 m1 m2 hbq HNE HREL
              have hx9 := unhide HX9
              clear HX9
              cases og with
              | true =>
                clear kq hx9
                cases bq with
                | true =>
                  go_wp2_with fail
                  refine (unhide HAK).mono ?_
                  rintro e wz ⟨rfl, HBz⟩
                  go_wp2_with fail
                  go_ret
                  exact ⟨rfl, HBz⟩
                | false =>
                  have HR2 := hide (unhide HREL (unhide HNE rfl))
                  clear HREL HNE
                  go_wp2_with fail
                  go_roundw
                  case rel => exact ⟨k + 1, by omega, by go_num, HR2⟩
                  case measure => simp [intOf]; omega
              | false =>
                simp only [Bool.false_eq_true, if_false] at hx9
                subst hx9
                simp only at kq p0 p1 p2 p3
                cases bq with
                | true =>
                  go_wp2_with fail
                  refine (unhide HAK).mono ?_
                  rintro e wz ⟨rfl, HBz⟩
                  go_wp2_with fail
                  go_ret
                  exact ⟨rfl, HBz⟩
                | false =>
                  have HR2 := hide (unhide HREL (unhide HNE rfl))
                  clear HREL HNE
                  go_wp2_with fail
                  go_roundw
                  case rel => exact ⟨k + 1, by omega, by go_num, HR2⟩
                  case measure => simp [intOf]; omega
            · obtain rfl : k = ops.length := by omega
              obtain ⟨⟨g, S9, K8, h1, h2⟩, h3⟩ := unhide HL
              have hmis : f1 key = f key := unhide HMIS (fun o ho => by
                obtain ⟨j, hj⟩ := List.getElem?_of_mem ho
                exact h3 j o (List.getElem?_eq_some_iff.1 hj).1 hj)
              have hgk := get_kp w g Q S9 f1 V1 K8 n1 key wr h1 (unhide HKY)
              obtain ⟨z1, z2⟩ := gt_same hmis
              rw [z1, z2, (unhide HX).1, (unhide HX).2, show imA X = .agg #[.string (str X.k), .bool X.g, .string (str X.v), .int .i64 (X.t : Int)] from rfl] at hgk
              have HGK := hide hgk
              have HXW := hide h2
              clear hgk z1 z2 hmis h1 h2 h3 HL HHIT HMIS
              go_wp2_with fail
              refine (unhide HGK).mono ?_
              rintro e u1 ⟨rfl, HU⟩
              obtain ⟨g3, k3, f3⟩ := unhide HU
              have hXU := (unhide HXW).fr f3
              obtain ⟨U2, hU2⟩ : ∃ U2, U2 = u1.alloc (.cells #[.string (str X.k), .bool X.g, .string (str X.v), .int .i64 (X.t : Int)] 47) := ⟨_, rfl⟩
              obtain ⟨Y2, hY2⟩ : ∃ Y2, Y2 = u1.heap.size := ⟨_, rfl⟩
              have hb2 : Below u1.heap.size u1 U2 := by rw [hU2]; exact (Below.refl _ _).alloc (Nat.le_refl _) _
              have hr2 : U2.heap[Y2]? = some (.cells #[.string (str X.k), .bool X.g, .string (str X.v), .int .i64 (X.t : Int)] 47 (0, 0)) := by rw [hY2, hU2]; exact heap_alloc_new _ _
              have hrZ := (hXU.fr ((Fr.refl _ g3).bel hb2)).row
              have m0 : U2.cell? ⟨Z, 0, none⟩ = some (.string (str X.k)) := cell_of_row _ _ _ _ _ _ hrZ
              have m1 : U2.cell? ⟨Z, 1, none⟩ = some (.bool X.g) := cell_of_row _ _ _ _ _ _ hrZ
              have m2 : U2.cell? ⟨Z, 2, none⟩ = some (.string (str X.v)) := cell_of_row _ _ _ _ _ _ hrZ
              have m3 : U2.cell? ⟨Z, 3, none⟩ = some (.int .i64 (X.t : Int)) := cell_of_row _ _ _ _ _ _ hrZ
              have p0 : U2.cell? ⟨Y2, 0, none⟩ = some (.string (str X.k)) := cell_of_row _ _ _ _ _ _ hr2
              have p1 : U2.cell? ⟨Y2, 1, none⟩ = some (.bool X.g) := cell_of_row _ _ _ _ _ _ hr2
              have p2 : U2.cell? ⟨Y2, 2, none⟩ = some (.string (str X.v)) := cell_of_row _ _ _ _ _ _ hr2
              have p3 : U2.cell? ⟨Y2, 3, none⟩ = some (.int .i64 (X.t : Int)) := cell_of_row _ _ _ _ _ _ hr2
              have HAK := hide (awake_kp (unhide HE) (k3.below hb2))
              clear HGK HU k3 f3 HXW hXU hb2 hr2 hrZ
              go_upto_region 29 with fail
              rw [← hU2, ← hY2]
              clear hU2 hY2
              have hg : Tryz.prog.eqGuardType Tryz.prog.depth 47 = false := by kernel_rfl
              have kq := eqM X
              go_wp2_with fail
              refine (unhide HAK).mono ?_
              rintro e wz ⟨rfl, HBz⟩
              go_wp2_with fail
              go_ret
              exact ⟨rfl, HBz⟩
#print axioms writes6
theorem kvstoreWrites_walk (p : Option Addr) (c : Nat) (l : List D6) (q : Option Addr) (qc : Nat) (ops : List Op6) (key : Nm) (w : World) (h : DR6 w p l) (hl : l.length * 64 ≤ 140737488351232) (ho : OpR6 w q ops) (hkey : key.length ≤ maxLen) (hE : EnvS w) :
    Calls Tryz.prog 5 #[.slice p l.length c, .slice q ops.length qc, .string (str key)] w fun e w' => e = .returned (.bool true) ∧ Below w.heap.size w w' :=
  (writes6 w p c l q qc ops key h hl ho hkey hE).mono fun e w' q => ⟨q.1, q.2⟩
end Go.Proofs.YtmcgghjeocnpnaaGreatDoor
end
section
set_option linter.unusedVariables false
set_option maxRecDepth 1000000
namespace Go.Proofs.YtmcgghjeocnpnaaGreatDoor
open Go.RowKit Go.Maps Go.MuLone

/-- Block bm is a map of items; ks are its keys. -/
structure IL (w : World) (bm : Nat) (f : Its) (cnt : Nat) (ks : List Nm) : Prop where
  mp : ∃ D, w.ownsMap Tryz.prog 9 imE bm cnt D ∧ (∀ n, (f n = none ∧ Maps.has D (.string n) = false) ∨ ∃ x, f n = some x ∧ Maps.has D (.string n) = true ∧ ∀ z, D.atKey (.string n) z = enI x) ∧ ks.length = Maps.size D
  nd : ks.Nodup
  mem : ∀ n, n ∈ ks ↔ f n ≠ none
theorem IL.im {w : World} {bm cnt : Nat} {f : Its} {ks : List Nm} (h : IL w bm f cnt ks) : IM w bm f cnt := by
  obtain ⟨D, h1, h2, _⟩ := h.mp
  exact ⟨D, h1, h2⟩
theorem IL.lt {w : World} {bm cnt : Nat} {f : Its} {ks : List Nm} (h : IL w bm f cnt ks) : bm < w.heap.size := h.im.lt
theorem IL.same {w w' : World} {bm cnt : Nat} {f : Its} {ks : List Nm} (h : IL w bm f cnt ks) (x : w'.heap[bm]? = w.heap[bm]?) : IL w' bm f cnt ks := by
  obtain ⟨D, h1, h2, h3⟩ := h.mp
  exact ⟨⟨D, ownsMap_same h1 x, h2, h3⟩, h.nd, h.mem⟩
theorem IL.made (w : World) : IL (w.alloc (.map #[] 0)) w.heap.size (fun _ => none) 0 [] :=
  ⟨⟨.map [], World.ownsMap_made _ _ _ _, fun n => .inl ⟨rfl, rfl⟩, rfl⟩, List.nodup_nil, fun n => by simp⟩
theorem IL.put {w : World} {bm cnt : Nat} {f : Its} {ks : List Nm} (h : IL w bm f cnt ks) (n : Nm) (hn : n.length ≤ maxLen) (hc : cnt < maxLen) (x : Im) :
    ∃ w2 ks2, (Instr.mapUpdate 49 (.map (some bm)) (.string (str n)) (imA x)).run Tryz.prog w = .ok () w2 ∧ IL w2 bm (upd f n (some x)) (cnt + 1) ks2 ∧ w.grownBy w2 (some bm) := by
  obtain ⟨D, h1, h2, h3⟩ := h.mp
  obtain ⟨w2, r1, r2, r3⟩ := h1.store law Tryz.underlying49 hc (key_str n hn) (imE_mk x)
  have hrel : ∀ m, (upd f n (some x) m = none ∧ Maps.has (D.put (.string n) (enI x)) (.string m) = false) ∨ ∃ y, upd f n (some x) m = some y ∧ Maps.has (D.put (.string n) (enI x)) (.string m) = true ∧ ∀ z, (D.put (.string n) (enI x)).atKey (.string m) z = enI y := fun m => by
    by_cases hm : m = n
    · subst hm
      rw [upd_same]
      exact .inr ⟨x, rfl, Maps.has_put_same h1.isMap (by trivial) _, fun z => Maps.atKey_put_same h1.isMap (by trivial) _ z⟩
    · have hne : (Lit.string m) ≠ (Lit.string n) := fun e => hm (by simpa using e)
      rw [upd_other _ _ _ _ hm]
      rcases h2 m with ⟨e1, e2⟩ | ⟨y, e1, e2, e3⟩
      · exact .inl ⟨e1, by rw [Maps.has_put_other hne]; exact e2⟩
      · exact .inr ⟨y, e1, by rw [Maps.has_put_other hne]; exact e2, fun z => by rw [Maps.atKey_put_other hne]; exact e3 z⟩
  have hsz := Maps.size_put (h1.tidy law) (k := .string n) (enI x)
  rcases h2 n with ⟨e1, e2⟩ | ⟨y, e1, e2, e3⟩
  · rw [e2, if_neg (by simp)] at hsz
    have hnk : n ∉ ks := fun hh => (h.mem n).1 hh e1
    refine ⟨w2, n :: ks, r1, ⟨⟨_, r2, hrel, by rw [hsz, List.length_cons, h3]⟩, List.nodup_cons.2 ⟨hnk, h.nd⟩, fun m => ?_⟩, r3.grown⟩
    by_cases hm : m = n
    · subst hm; rw [upd_same]; simp
    · rw [upd_other _ _ _ _ hm, ← h.mem m]; simp [hm]
  · rw [e2, if_pos rfl] at hsz
    refine ⟨w2, ks, r1, ⟨⟨_, r2, hrel, by rw [hsz, h3]⟩, h.nd, fun m => ?_⟩, r3.grown⟩
    by_cases hm : m = n
    · subst hm; rw [upd_same, h.mem, e1]; simp
    · rw [upd_other _ _ _ _ hm, ← h.mem m]
theorem IL.del {w : World} {bm cnt : Nat} {f : Its} {ks : List Nm} (h : IL w bm f cnt ks) (n : Nm) {D : DataW Unit} (hD : w.ownsMap Tryz.prog 9 imE bm cnt D ∧ (∀ n, (f n = none ∧ Maps.has D (.string n) = false) ∨ ∃ x, f n = some x ∧ Maps.has D (.string n) = true ∧ ∀ z, D.atKey (.string n) z = enI x) ∧ ks.length = Maps.size D) {w2 : World} (r2 : w2.ownsMap Tryz.prog 9 imE bm cnt (D.del (.string n))) :
    ∃ ks2, IL w2 bm (upd f n none) cnt ks2 := by
  obtain ⟨h1, h2, h3⟩ := hD
  have hrel : ∀ m, (upd f n none m = none ∧ Maps.has (D.del (.string n)) (.string m) = false) ∨ ∃ y, upd f n none m = some y ∧ Maps.has (D.del (.string n)) (.string m) = true ∧ ∀ z, (D.del (.string n)).atKey (.string m) z = enI y := fun m => by
    by_cases hm : m = n
    · subst hm
      rw [upd_same]
      exact .inl ⟨rfl, Maps.has_del_same⟩
    · have hne : (Lit.string m) ≠ (Lit.string n) := fun e => hm (by simpa using e)
      rw [upd_other _ _ _ _ hm]
      rcases h2 m with ⟨e1, e2⟩ | ⟨y, e1, e2, e3⟩
      · exact .inl ⟨e1, by rw [Maps.has_del_other hne]; exact e2⟩
      · exact .inr ⟨y, e1, by rw [Maps.has_del_other hne]; exact e2, fun z => by rw [Maps.atKey_del_other hne]; exact e3 z⟩
  have hsz := Maps.size_del (h1.tidy law) (k := .string n)
  rcases h2 n with ⟨e1, e2⟩ | ⟨y, e1, e2, e3⟩
  · rw [e2, if_neg (by simp)] at hsz
    refine ⟨ks, ⟨⟨_, r2, hrel, by omega⟩, h.nd, fun m => ?_⟩⟩
    by_cases hm : m = n
    · subst hm; rw [upd_same, h.mem, e1]
    · rw [upd_other _ _ _ _ hm, ← h.mem m]
  · rw [e2, if_pos rfl] at hsz
    have hin : n ∈ ks := (h.mem n).2 (by rw [e1]; simp)
    refine ⟨ks.erase n, ⟨⟨_, r2, hrel, by rw [List.length_erase_of_mem hin]; omega⟩, h.nd.erase n, fun m => ?_⟩⟩
    rw [h.nd.mem_erase_iff]
    by_cases hm : m = n
    · subst hm; rw [upd_same]; simp
    · rw [upd_other _ _ _ _ hm, ← h.mem m]; simp [hm]
theorem IL.len {w : World} {bm cnt : Nat} {f : Its} {ks : List Nm} (h : IL w bm f cnt ks) (ty : TypeId) : (Builtin.len_ #[49] ty #[.map (some bm)]).run Tryz.prog w = .ok (.int .i64 (ks.length : Int)) w := by
  obtain ⟨D, h1, h2, h3⟩ := h.mp
  rw [h3]
  exact h1.len Tryz.underlying49 ty
/-! ### what was written since -/
/-- f1 is what f was at version v, with what was written since. -/
def Ext6 (f : Its) (v : Nat) (f1 : Its) : Prop := ∀ n, f1 n = f n ∨ ∃ x, f1 n = some x ∧ v < x.t
theorem Ext6.refl (f : Its) (v : Nat) : Ext6 f v f := fun n => .inl rfl
theorem Ext6.put {f f1 : Its} {v : Nat} : ∀ {l : List Im}, Ext6 f v f1 → (∀ x ∈ l, v < x.t) → Ext6 f v (f1.put l) := by
  intro l
  induction l generalizing f1 with
  | nil => intro h _; exact h
  | cons a r ih =>
    intro h hl
    show Ext6 f v (Its.put (upd f1 a.k (some a)) r)
    refine ih (fun n => ?_) (fun x hx => hl x (List.mem_cons_of_mem _ hx))
    by_cases e : n = a.k
    · subst e
      rw [upd_same]
      exact .inr ⟨a, rfl, hl a List.mem_cons_self⟩
    · rw [upd_other _ _ _ _ e]
      exact h n
theorem Ext6.wr {f f1 : Its} {v t : Nat} {l : List Op6} (h : Ext6 f v f1) (ht : v < t) : Ext6 f v (f1.put (wrI l t)) := h.put (fun x hx => by
  obtain ⟨o, ho, rfl⟩ := List.mem_map.1 hx
  exact ht)
/-- One item put over what is there. -/
def ovI (F : Its) (x : Im) : Its := upd F x.k (if x.g then none else some x)
def ovL (F : Its) (l : List Im) : Its := l.foldl ovI F
theorem ovL_snoc (F : Its) (l : List Im) (x : Im) : ovL F (l ++ [x]) = ovI (ovL F l) x := by unfold ovL; rw [List.foldl_append]; rfl
/-- What is there, of a store's items. -/
def thI (f : Its) : Its := fun n => match f n with | some x => if x.g then none else some x | none => none
theorem ovL_miss {n : Nm} : ∀ {l : List Im} {F : Its}, (∀ x ∈ l, x.k ≠ n) → ovL F l n = F n := by
  intro l
  induction l with
  | nil => intro F _; rfl
  | cons a r ih =>
    intro F h
    show ovL (ovI F a) r n = F n
    rw [ih (fun x hx => h x (List.mem_cons_of_mem _ hx))]
    exact upd_other _ _ _ _ (Ne.symm (h a List.mem_cons_self))
theorem ovL_hit : ∀ {l : List Im} {F : Its} {x : Im}, x ∈ l → Rise l → ovL F l x.k = (if x.g then none else some x) := by
  intro l
  induction l with
  | nil => intro F x h; cases h
  | cons a r ih =>
    intro F x h hr
    have hr' := List.pairwise_cons.1 hr
    show ovL (ovI F a) r x.k = _
    rcases List.mem_cons.1 h with rfl | h
    · rw [ovL_miss (fun y hy e => ?_)]
      · exact upd_same _ _ _
      · have := hr'.1 y hy
        rw [e, bl_eq, decide_eq_true_eq] at this
        exact List.lt_irrefl _ this
    · exact ih h hr'.2
/-- What there was, with what was written since put over it, is what there is. -/
theorem news_math {f f1 : Its} {v : Nat} {l : List Im} (he : Ext6 f v f1) (ho : IOk f v) (hk : KOk f1) (hg : Gth f1 (fun x => decide ((v : Int) < (x.t : Int))) (fun _ => false) l) (hr : Rise l) : ovL (thI f) l = thI f1 := by
  funext n
  by_cases hin : ∃ x ∈ l, x.k = n
  · obtain ⟨x, hx, rfl⟩ := hin
    rw [ovL_hit hx hr]
    have := (gth_iff hg x).1 hx
    unfold thI
    rw [this.1]
  · rw [ovL_miss (fun x hx e => hin ⟨x, hx, e⟩)]
    have key : f1 n = f n := by
      rcases he n with e | ⟨x, e1, e2⟩
      · exact e
      · exfalso
        obtain ⟨k1, _⟩ := hk n x e1
        refine hin ⟨x, (gth_iff hg x).2 ⟨by rw [k1]; exact e1, ?_⟩, k1⟩
        simpa using e2
    unfold thI
    rw [key]
/-- The rows of what is there. -/
theorem scan_th {f : Its} {l : List Im} (hg : Gth f (fun x => scP [] [] x) (fun _ => false) l) (x : Im) : x ∈ l ↔ thI f x.k = some x := by
  rw [gth_iff hg, scP_iff]
  unfold thI
  constructor
  · rintro ⟨h1, h2, _⟩
    rw [h1]
    simp [h2]
  · intro h
    cases hf : f x.k with
    | none => rw [hf] at h; cases h
    | some y =>
      rw [hf] at h
      simp only at h
      split at h
      · cases h
      · rename_i hy
        obtain rfl := Option.some.inj h
        exact ⟨rfl, by simpa using hy, nil_le _, .inl rfl⟩
/-- A map of items, filled out of a risen row. -/
theorem fill_put {l : List Im} (f : Its) (hg : Gth f (fun x => scP [] [] x) (fun _ => false) l) (hk : KOk f) : Its.put (fun _ => none) l = thI f := by
  have nd : ∀ {r : List Im} {F : Its} {n : Nm}, (∀ x ∈ r, x.k = n → ∀ y ∈ r, y.k = n → x = y) → (∃ x ∈ r, x.k = n) → ∃ x ∈ r, x.k = n ∧ F.put r n = some x := by
    intro r
    induction r with
    | nil => intro F n _ h; obtain ⟨x, hx, _⟩ := h; cases hx
    | cons a r ih =>
      intro F n hu h
      by_cases hin : ∃ x ∈ r, x.k = n
      · obtain ⟨x, hx, e1, e2⟩ := ih (F := upd F a.k (some a)) (n := n) (fun x hx ex y hy ey => hu x (List.mem_cons_of_mem _ hx) ex y (List.mem_cons_of_mem _ hy) ey) hin
        exact ⟨x, List.mem_cons_of_mem _ hx, e1, e2⟩
      · obtain ⟨x, hx, e1⟩ := h
        rcases List.mem_cons.1 hx with rfl | hx
        · refine ⟨x, List.mem_cons_self, e1, ?_⟩
          show Its.put (upd F x.k (some x)) r n = some x
          rw [put_miss (fun y hy e => hin ⟨y, hy, e⟩), ← e1]
          exact upd_same _ _ _
        · exact absurd ⟨x, hx, e1⟩ hin
  have hu : ∀ x ∈ l, ∀ y ∈ l, x.k = y.k → x = y := fun x hx y hy e => by
    have h1 := ((gth_iff hg x).1 hx).1
    have h2 := ((gth_iff hg y).1 hy).1
    rw [e, h2] at h1
    exact (Option.some.inj h1).symm
  funext n
  by_cases hin : ∃ x ∈ l, x.k = n
  · obtain ⟨x, hx, e1, e2⟩ := nd (F := fun _ => none) (n := n) (fun x hx ex y hy ey => hu x hx y hy (ex.trans ey.symm)) hin
    rw [e2, ← e1]
    exact ((scan_th hg x).1 hx).symm
  · rw [put_miss (fun x hx e => hin ⟨x, hx, e⟩)]
    cases ht : thI f n with
    | none => rfl
    | some y =>
      exfalso
      have hy : y.k = n := by
        unfold thI at ht
        cases hf : f n with
        | none => rw [hf] at ht; cases ht
        | some z =>
          rw [hf] at ht
          simp only at ht
          split at ht
          · cases ht
          · obtain rfl := Option.some.inj ht
            exact (hk n z hf).1
      exact hin ⟨y, (scan_th hg y).2 (by rw [hy]; exact ht), hy⟩
theorem rise_nd {l : List Im} (h : Rise l) : (l.map (·.k)).Nodup := by
  unfold Rise at h
  rw [List.nodup_iff_pairwise_ne, List.pairwise_map]
  exact h.imp (fun {a b} hab e => by rw [e, bl_eq, decide_eq_true_eq] at hab; exact List.lt_irrefl _ hab)
/-- As many keys as items. -/
theorem count_th {f : Its} {l : List Im} {ks : List Nm} (hg : Gth f (fun x => scP [] [] x) (fun _ => false) l) (hr : Rise l) (hk : KOk f) (h1 : ks.Nodup) (h2 : ∀ n, n ∈ ks ↔ thI f n ≠ none) : ks.length = l.length := by
  have hp : ks.Perm (l.map (·.k)) := (List.perm_ext_iff_of_nodup h1 (rise_nd hr)).2 (fun n => by
    rw [h2, List.mem_map]
    constructor
    · intro h
      cases ht : thI f n with
      | none => exact absurd ht h
      | some y =>
        have hy : y.k = n := by
          unfold thI at ht
          cases hf : f n with
          | none => rw [hf] at ht; cases ht
          | some z =>
            rw [hf] at ht
            simp only at ht
            split at ht
            · cases ht
            · obtain rfl := Option.some.inj ht
              exact (hk n z hf).1
        exact ⟨y, (scan_th hg y).2 (by rw [hy]; exact ht), hy⟩
    · rintro ⟨x, hx, rfl⟩ h
      rw [(scan_th hg x).1 hx] at h
      cases h)
  rw [hp.length_eq, List.length_map]
#print axioms count_th
#print axioms IL.put
end Go.Proofs.YtmcgghjeocnpnaaGreatDoor
end
section
set_option linter.unusedVariables false
set_option maxRecDepth 1000000
namespace Go.Proofs.YtmcgghjeocnpnaaGreatDoor
open Go.RowKit Go.Maps Go.MuLone

/-- What is made from now on is a statement's own. -/
def gP (w : World) (g : Nat → Tg) : Nat → Tg := fun k => if k < w.heap.size then g k else .p 9
theorem KP.st9 {w0 w w' : World} {g g' : Nat → Tg} {Q : Nat} {S : List Sg} {f : Its} {v k n : Nat} (h : KP w0 w g Q S f v k n) (x : St w w' g g' (fun t => t = .p 9)) : KP w0 w' g' Q S f v k n := by
  obtain ⟨B, D, m, M, N, y, all, h1, h2, h3⟩ := h.ks
  exact ⟨⟨B, D, m, M, N, y, all, h1.st9 x, h2, h3⟩, h.key, h.io, h.vk⟩
theorem R6.s9 {w w' : World} {g g' : Nat → Tg} {a : Option Addr} {c : Nat} {l : List Im} (h : R6 w g a c l) (x : St w w' g g' (fun t => t = .p 9)) : R6 w' g' a c l :=
  ⟨h.ow.st x (fun k hk => by rw [h.tg k hk]; simp), fun k hk => (x.ag k (h.ow.lt k hk)).trans (h.tg k hk)⟩
theorem IL.fr {w w' : World} {g g' : Nat → Tg} {bm cnt : Nat} {f : Its} {ks : List Nm} (h : IL w bm f cnt ks) (x : Fr w w' g g') (hg : g bm = .p 9) : IL w' bm f cnt ks ∧ g' bm = .p 9 :=
  ⟨h.same (x.block bm h.lt (.inr hg)), (x.ag bm h.lt).trans hg⟩
theorem st9_of {w w' : World} {g : Nat → Tg} {bm : Nat} (h : w.grownBy w' (some bm)) (hg : g bm = .p 9) : St w w' g g (fun t => t = .p 9) := St.ofG h (fun k hk => by rw [← Option.some.inj hk]; exact hg)
/-- The map is filled. -/
def N2 (w0 w : World) (Q : Nat) (S : List Sg) (f : Its) (v K n bm : Nat) (a : Option Addr) (c : Nat) (r : List Im) (k : Nat) : Prop :=
  ∃ g ks, KP w0 w g Q S f v K n ∧ R6 w g a c r ∧ IL w bm (Its.put (fun _ => none) (r.take k)) k ks ∧ g bm = .p 9
/-- More is committed. -/
def N3 (w0 w : World) (Q : Nat) (f : Its) (v K n bm cnt : Nat) (more : List D6) (k : Nat) : Prop :=
  ∃ g S f1 V n1 ks, KP w0 w g Q S f1 V (K + k) n1 ∧ n1 ≤ n + sumN (more.take k) ∧ Ext6 f v f1 ∧ v ≤ V ∧ IL w bm (thI f) cnt ks ∧ g bm = .p 9
/-- What was written since is put over it. -/
def N4 (w0 w : World) (Q : Nat) (S : List Sg) (f f1 : Its) (V K n bm cnt : Nat) (a : Option Addr) (c : Nat) (r : List Im) (k : Nat) : Prop :=
  ∃ g ks, KP w0 w g Q S f1 V K n ∧ R6 w g a c r ∧ IL w bm (ovL (thI f) (r.take k)) (cnt + k) ks ∧ g bm = .p 9
/-- What there is now is asked for. -/
def N5 (w0 w : World) (Q : Nat) (S : List Sg) (f1 : Its) (V K n bm cnt : Nat) (a : Option Addr) (c : Nat) (r : List Im) : Prop :=
  ∃ g ks, KP w0 w g Q S f1 V K n ∧ R6 w g a c r ∧ IL w bm (thI f1) cnt ks ∧ g bm = .p 9
def lastK (l : List Im) : Nat → Nm
  | 0 => []
  | k + 1 => match l[k]? with | some x => x.k | none => []
theorem last_lt {f : Its} {v : Nat} {p : Im → Bool} {l : List Im} (ho : IOk f v) (hg : Gth f p (fun _ => false) l) (hr : Rise l) {k : Nat} {x : Im} (hx : l[k]? = some x) : Op.bytesLess (str x.k).toList (str (lastK l k)).toList = false ∧ ((str x.k).toList == (str (lastK l k)).toList) = false := by
  have hlt : lastK l k < x.k := by
    cases k with
    | zero =>
      have h1 := (ho x.k x ((gth_iff hg x).1 (List.mem_of_getElem? hx)).1).1
      show ([] : Nm) < x.k
      cases hk : x.k with
      | nil => rw [hk] at h1; simp at h1
      | cons a r => exact List.nil_lt_cons a r
    | succ j =>
      have hj := (List.getElem?_eq_some_iff.1 hx).1
      obtain ⟨y, hy⟩ : ∃ y, l[j]? = some y := ⟨_, List.getElem?_eq_getElem (by omega)⟩
      show (match l[j]? with | some x => x.k | none => []) < x.k
      rw [hy]
      have hp := List.pairwise_iff_getElem.1 hr j (j + 1) (by omega) hj (by omega)
      have e1 := (List.getElem?_eq_some_iff.1 hy).2
      have e2 := (List.getElem?_eq_some_iff.1 hx).2
      rw [e1, e2, bl_eq, decide_eq_true_eq] at hp
      exact hp
  constructor
  · show bl x.k (lastK l k) = false
    rw [bl_eq, decide_eq_false_iff_not]
    exact fun h => List.lt_irrefl _ (List.lt_trans h hlt)
  · rw [toList_str, toList_str, beq_eq_false_iff_ne]
    exact fun e => List.lt_irrefl _ (e ▸ hlt)
theorem commitM (w0 w W : World) (Q : Nat) (f : Its) (v K n bm cnt : Nat) (more : List D6) (k : Nat) (d : D6) (x : Option Addr) (c : Nat) (hE : EnvS w0) (h : N3 w0 w Q f v K n bm cnt more k) (hs : more.length ≤ 60 ∧ sumN more ≤ 2000 ∧ sumB more ≤ 262144) (hK : K ≤ 60) (hn : n ≤ 2000) (hd : more[k]? = some d) (hb : Below w.heap.size w W) (hp : OpR6 w0 x d.l) :
    Calls Tryz.prog 14 #[.pointer (some ⟨Q, 0, none⟩), .slice x d.l.length c] W fun e w' => ∃ x E, e = .returned (.tuple #[.int .i64 x, .int .i64 E]) ∧ Hid (N3 w0 w' Q f v K n bm cnt more (k + 1)) := by
  obtain ⟨g, S, f1, V, n1, ks, h1, h2, h3, h4, h5, h6⟩ := h
  obtain ⟨s1, s2, s3⟩ := hs
  have hk := (List.getElem?_eq_some_iff.1 hd).1
  have t3 := sumN_takeLe more k
  have t4 := (sumN_mem (List.mem_of_getElem? hd)).2
  have t5 := sumN_take hd
  have h5' : IL W bm (thI f) cnt ks := h5.same (hb.block bm h5.lt)
  refine (commit_kp w0 g Q S f1 V (K + k) n1 x c d.l W hE (h1.below hb) hp (by omega) (by omega) (by omega)).mono ?_
  rintro e w' ⟨x, E, rfl, g', hf, ⟨_, _, k1⟩ | ⟨_, _, _, S', k1⟩⟩
  · obtain ⟨i1, i2⟩ := h5'.fr hf h6
    exact ⟨x, E, rfl, g', _, _, _, _, ks, k1, by omega, h3, h4, i1, i2⟩
  · obtain ⟨i1, i2⟩ := h5'.fr hf h6
    exact ⟨x, E, rfl, g', _, _, _, _, ks, k1, by omega, h3.wr (by omega), by omega, i1, i2⟩
theorem upd_upd6 {β : Type} (f : Nm → β) (n : Nm) (a b : β) : upd (upd f n a) n b = upd f n b := by
  funext m
  by_cases h : m = n
  · subst h; rw [upd_same, upd_same]
  · rw [upd_other _ _ _ _ h, upd_other _ _ _ _ h, upd_other _ _ _ _ h]
theorem run_mkmapI (w : World) : (Instr.makeMap 49 none).run Tryz.prog w = .ok (.map (some w.heap.size)) (w.alloc (.map #[] 0)) := by
  simp [Instr.makeMap, go_sem]
set_option maxHeartbeats 16000000 in
theorem news6 (w : World) (p : Option Addr) (c : Nat) (l : List D6) (q : Option Addr) (qc : Nat) (more : List D6) (h : DR6 w p l) (hm : DR6 w q more) (hE : EnvS w) :
    Calls Tryz.prog 4 #[.slice p l.length c, .slice q more.length qc] w fun e w' => e = .returned (.bool true) ∧ Hid (Below w.heap.size w w') := by
  have HSH := hide (short6 p c l w h)
  have HSM : Hid (∀ u, Below w.heap.size w u → Calls Tryz.prog 9 #[.slice q more.length qc] u fun e w' => e = .returned (.bool (shr6 more)) ∧ Hid (Below u.heap.size u w')) := fun u hu => short6 q qc more u (hm.below hu (Nat.le_refl _))
  have HAW : Hid (∀ u, Below w.heap.size w u → Calls Tryz.prog 10 #[] u fun e w' => e = .returned (.bool true) ∧ Hid (Below w.heap.size w w')) := fun u hu => awake6 w (fun _ => .o) u hE ⟨hu, fun _ _ => rfl⟩
  have HBG : Hid (∀ u, Below w.heap.size w u → Calls Tryz.prog 11 #[.int .i64 16777216] u fun e w' => ∃ D Q, e = .returned (.tuple #[.pointer (some ⟨D, 0, none⟩), .pointer (some ⟨Q, 0, none⟩), .bool true]) ∧ Hid (KS0 w w' Q 16777216)) := fun u hu => begun6 w (fun _ => .o) 16777216 u hE ⟨hu, fun _ _ => rfl⟩ (by omega) (by omega)
  have HE := hide hE
  have HH := hide h
  have HM := hide hm
  have hle := h.le
  have hle2 := hm.le
  unfold maxLen at hle hle2
  clear h hE hm
  generalize hsl : shr6 l = sl at *
  generalize hsm : shr6 more = sm at *
  have HSL := hide hsl
  have HSL2 := hide hsm
  clear hsl hsm
  go_enter Tryz.func4, Tryz.ntmps4
  go_wp2_with fail
  refine (unhide HSH).mono ?_
  rintro e w1 ⟨rfl, HB1⟩
  clear HSH
  cases sl with
  | false =>
    have HAA := hide (unhide HAW w1 (unhide HB1))
    go_wp2_with fail
    refine (unhide HAA).mono ?_
    rintro e wz ⟨rfl, HBz⟩
    go_wp2_with fail
    go_ret
    exact ⟨rfl, HBz⟩
  | true =>
    have HSM2 := hide (unhide HSM w1 (unhide HB1))
    go_wp2_with fail
    refine (unhide HSM2).mono ?_
    rintro e w2 ⟨rfl, HB2⟩
    have HB3 : Hid (Below w.heap.size w w2) := (unhide HB1).trans ((unhide HB2).mono (unhide HB1).size)
    clear HSM2 HSM HB1 HB2
    cases sm with
    | false =>
      have HAA := hide (unhide HAW w2 (unhide HB3))
      go_wp2_with fail
      refine (unhide HAA).mono ?_
      rintro e wz ⟨rfl, HBz⟩
      go_wp2_with fail
      go_ret
      exact ⟨rfl, HBz⟩
    | true =>
      have HBB := hide (unhide HBG w2 (unhide HB3))
      go_wp2_with fail
      refine (unhide HBB).mono ?_
      rintro e w3 ⟨D, Q, rfl, HK0⟩
      have HL0 : Hid (LpS w w3 Q l 0) := LpS.start l (unhide HK0)
      clear HBB HK0 HBG HAW HB3
      go_wp2_with fail
      go_loopw [40] (fun i wr => ∃ k : Nat, k ≤ l.length ∧ i = .int .i64 (k : Int) ∧ Hid (LpS w wr Q l k)) (fun i _ => l.length - (intOf i).toNat)
      case atStart => exact ⟨0, Nat.zero_le _, rfl, HL0⟩
      case round =>
        clear HL0
        obtain ⟨k, hk, rfl, HL⟩ := hrel
        by_cases hlt : k < l.length
        · have hlt' : (k : Int) < (l.length : Int) := by omega
          obtain ⟨d, hd⟩ : ∃ d, l[k]? = some d := ⟨_, List.getElem?_eq_getElem hlt⟩
          have hbw : Below w.heap.size w wr := by
            obtain ⟨g, S, f, v, n, h1, _⟩ := unhide HL
            exact h1.lw.below
          obtain ⟨b, off, rfl, hc⟩ := (unhide HH).mem (by intro e; subst e; simp at hd)
          obtain ⟨a, hv, c0, c1, c2, c3⟩ := hc k d hd
          have kk : ∀ {q : Addr} {v : Value}, w.cell? q = some v → wr.cell? q = some v := fun {q v} e => by
            rw [hbw.cell (World.block_lt_of_cell? w _ e)]; exact e
          have k0 := kk c0
          have k1 := kk c1
          have k2 := kk c2
          have k3 := kk c3
          obtain ⟨W, hW⟩ : ∃ W, W = wr.alloc (.cells #[.int .i64 d.o, .slice a.x d.l.length a.c, .slice a.y d.k.length a.m, .int .i64 d.n] 33) := ⟨_, rfl⟩
          obtain ⟨Z, hZ⟩ : ∃ Z, Z = wr.heap.size := ⟨_, rfl⟩
          have hbW : Below wr.heap.size wr W := by rw [hW]; exact (Below.refl _ _).alloc (Nat.le_refl _) _
          have hrW : W.heap[Z]? = some (.cells #[.int .i64 d.o, .slice a.x d.l.length a.c, .slice a.y d.k.length a.m, .int .i64 d.n] 33 (0, 0)) := by rw [hZ, hW]; exact heap_alloc_new _ _
          have d1 : W.cell? ⟨Z, 1, none⟩ = some (.slice a.x d.l.length a.c) := cell_of_row _ _ _ _ _ _ hrW
          have HCM := hide (commitL w wr W Q l k d a.x a.c (unhide HE) (unhide HL) (shr6_sum (unhide HSL)) hd hbW hv.l)
          clear kk c0 c1 c2 c3 hc hv hrW hbW hbw hd
          go_upto_region 9 with fail
          rw [← hW, ← hZ]
          clear hW hZ k0 k1 k2 k3
          go_wp2_with fail
          refine (unhide HCM).mono ?_
          rintro e w4 ⟨x, E, rfl, HL3⟩
          clear HCM
          go_wp2_with fail
          go_roundw
          case rel => exact ⟨k + 1, by omega, by go_num, HL3⟩
          case measure => simp [intOf]; omega
        · obtain rfl : k = l.length := by omega
          obtain ⟨g0, S, f, v, n, q1, q2⟩ := unhide HL
          have hn : n ≤ 2000 := by have := sumN_takeLe l l.length; have := (shr6_sum (unhide HSL)).2.1; omega
          have HN := hide hn
          have hvk := q1.vk
          have HK := hide q1
          have hl60 := (shr6_sum (unhide HSL)).1
          generalize hK9 : l.length = K9 at *
          have HK9 : Hid (K9 ≤ 60) := hl60
          have hv : v ≤ 60 := by omega
          clear q1 q2 HL hn hK9 hvk hl60
          have HV1 := hide (version_kp w g0 Q S f v K9 n wr (unhide HK))
          go_wp2_with fail
          refine (unhide HV1).mono ?_
          rintro e w4 ⟨rfl, HK4, HF4⟩
          clear HV1 HK HF4
          obtain ⟨W5, hW5⟩ : ∃ W5, W5 = w4.alloc (.map #[] 0) := ⟨_, rfl⟩
          obtain ⟨bm, hbm⟩ : ∃ bm, bm = w4.heap.size := ⟨_, rfl⟩
          have b5 : Below w4.heap.size w4 W5 := by rw [hW5]; exact (Below.refl _ _).alloc (Nat.le_refl _) _
          have HI5 : Hid (IL W5 bm (fun _ => none) 0 []) := by rw [hbm, hW5]; exact IL.made w4
          obtain ⟨g5, hg5⟩ : ∃ g5, g5 = gP w4 g0 := ⟨_, rfl⟩
          have HK5 : Hid (KP w W5 g5 Q S f v K9 n) := (unhide HK4).st ((St.ofBelow g0 _ b5).tag (fun k hk => by rw [hg5]; exact if_pos hk))
          have HT5 : Hid (g5 bm = .p 9) := by rw [hg5, hbm]; exact if_neg (Nat.lt_irrefl _)
          have e0 : str ([] : Nm) = ⟨#[]⟩ := rfl
          have hsc := scan_r w g5 Q S f v K9 n [] [] W5 (unhide HK5) (by have := unhide HN; omega)
          rw [e0] at hsc
          have HSC := hide hsc
          clear hsc hg5 b5 HK4
          have hmm := run_mkmapI w4
          go_upto_region 13 with fail
          rw [← hW5, ← hbm]
          clear hW5 hbm hmm
          go_wp2_with fail
          refine (unhide HSC).mono ?_
          rintro e w6 ⟨a1, c1, r1, g6, rfl, HK6, HR6, HF6, HG6, hr1⟩
          obtain ⟨i6, t6⟩ := (unhide HI5).fr (unhide HF6) (unhide HT5)
          have HN0 : Hid (N2 w w6 Q S f v K9 n bm a1 c1 r1 0) := ⟨g6, [], unhide HK6, unhide HR6, i6, t6⟩
          clear HSC HI5 HK5 HT5 HK6 HR6 HF6 i6 t6
          go_wp2_with fail
          go_loopw [55] (fun i wr => ∃ k : Nat, k ≤ r1.length ∧ i = .int .i64 (k : Int) ∧ Hid (N2 w wr Q S f v K9 n bm a1 c1 r1 k)) (fun i _ => r1.length - (intOf i).toNat)
          case atStart => exact ⟨0, Nat.zero_le _, rfl, HN0⟩
          case round =>
            clear HN0
            obtain ⟨k, hk, rfl, HL⟩ := hrel
            by_cases hlt : k < r1.length
            · have hlt' : (k : Int) < (r1.length : Int) := by omega
              obtain ⟨x, hx⟩ : ∃ x, r1[k]? = some x := ⟨_, List.getElem?_eq_getElem hlt⟩
              obtain ⟨g, ks, h1, h2, h3, h4⟩ := unhide HL
              obtain ⟨G, rfl, c0, cc1, c2, c3, cf⟩ := h2.ow.at hx
              have hxk : x.k.length ≤ maxLen := (h1.key x.k x ((gth_iff (unhide HG6).1 x).1 (List.mem_of_getElem? hx)).1).2
              obtain ⟨W, hW⟩ : ∃ W, W = wr.alloc (.cells #[.string (str x.k), .bool x.g, .string (str x.v), .int .i64 (x.t : Int)] 47) := ⟨_, rfl⟩
              obtain ⟨Z, hZ⟩ : ∃ Z, Z = wr.heap.size := ⟨_, rfl⟩
              have hbW : Below wr.heap.size wr W := by rw [hW]; exact (Below.refl _ _).alloc (Nat.le_refl _) _
              have hrW : W.heap[Z]? = some (.cells #[.string (str x.k), .bool x.g, .string (str x.v), .int .i64 (x.t : Int)] 47 (0, 0)) := by rw [hZ, hW]; exact heap_alloc_new _ _
              have d0 : W.cell? ⟨Z, 0, none⟩ = some (.string (str x.k)) := cell_of_row _ _ _ _ _ _ hrW
              have d1 : W.cell? ⟨Z, 1, none⟩ = some (.bool x.g) := cell_of_row _ _ _ _ _ _ hrW
              have d2 : W.cell? ⟨Z, 2, none⟩ = some (.string (str x.v)) := cell_of_row _ _ _ _ _ _ hrW
              have d3 : W.cell? ⟨Z, 3, none⟩ = some (.int .i64 (x.t : Int)) := cell_of_row _ _ _ _ _ _ hrW
              obtain ⟨w5, ks2, hup0, hI5, hg5⟩ := (h3.same (hbW.block bm h3.lt)).put x.k hxk (by unfold maxLen; omega) x
              have hup : (Instr.mapUpdate 49 (.map (some bm)) (.string (str x.k)) (.agg #[.string (str x.k), .bool x.g, .string (str x.v), .int .i64 (x.t : Int)])).run Tryz.prog W = .ok () w5 := hup0
              have st9 := st9_of hg5 h4
              have HN2 : Hid (N2 w w5 Q S f v K9 n bm (some ⟨G, 0, none⟩) c1 r1 (k + 1)) := by
                refine ⟨g, ks2, (h1.below hbW).st9 st9, (h2.fr ((Fr.refl _ g).bel hbW)).s9 st9, ?_, h4⟩
                rw [List.take_add_one, hx]
                show IL _ _ (Its.put _ (r1.take k ++ [x])) _ _
                rw [Its.put_snoc]
                exact hI5
              clear h1 h2 h3 h4 cf hup0 hI5 hg5 st9 hbW hrW hx HL
              go_upto_region 16 with fail
              rw [← hW, ← hZ]
              clear hW hZ c0 cc1 c2 c3
              go_wp2_with fail
              go_roundw
              case rel => exact ⟨k + 1, by omega, by go_num, HN2⟩
              case measure => simp [intOf]; omega
            · obtain rfl : k = r1.length := by omega
              obtain ⟨g, ks, h1, h2, h3, h4⟩ := unhide HL
              rw [List.take_length, fill_put f (unhide HG6).1 h1.key] at h3
              have HIO := hide h1.io
              have HN0 : Hid (N3 w wr Q f v K9 n bm r1.length more 0) := ⟨g, S, f, v, n, ks, h1, by omega, Ext6.refl f v, Nat.le_refl _, h3, h4⟩
              clear h1 h2 h3 h4 HL
              obtain ⟨C1, hC1⟩ : ∃ C1, C1 = r1.length := ⟨_, rfl⟩
              rw [← hC1] at HN0
              have HC1 : Hid (C1 ≤ 1000000) := by show C1 ≤ _; omega
              clear hC1
              go_wp2_with fail
              go_loopw [66] (fun i wr => ∃ k : Nat, k ≤ more.length ∧ i = .int .i64 (k : Int) ∧ Hid (N3 w wr Q f v K9 n bm C1 more k)) (fun i _ => more.length - (intOf i).toNat)
              case atStart => exact ⟨0, Nat.zero_le _, rfl, HN0⟩
              case round =>
                clear HN0
                obtain ⟨k, hk, rfl, HL⟩ := hrel
                by_cases hlt : k < more.length
                · have hlt' : (k : Int) < (more.length : Int) := by omega
                  obtain ⟨d, hd⟩ : ∃ d, more[k]? = some d := ⟨_, List.getElem?_eq_getElem hlt⟩
                  have hbw : Below w.heap.size w wr := by
                    obtain ⟨g, S, f1, V, n1, ks, h1, _⟩ := unhide HL
                    exact h1.lw.below
                  obtain ⟨b, off, rfl, hc⟩ := (unhide HM).mem (by intro e; subst e; simp at hd)
                  obtain ⟨a, hv2, c0, cc1, c2, c3⟩ := hc k d hd
                  have kk : ∀ {q : Addr} {v : Value}, w.cell? q = some v → wr.cell? q = some v := fun {q v} e => by
                    rw [hbw.cell (World.block_lt_of_cell? w _ e)]; exact e
                  have k0 := kk c0
                  have k1 := kk cc1
                  have k2 := kk c2
                  have k3 := kk c3
                  obtain ⟨W, hW⟩ : ∃ W, W = wr.alloc (.cells #[.int .i64 d.o, .slice a.x d.l.length a.c, .slice a.y d.k.length a.m, .int .i64 d.n] 33) := ⟨_, rfl⟩
                  obtain ⟨Z, hZ⟩ : ∃ Z, Z = wr.heap.size := ⟨_, rfl⟩
                  have hbW : Below wr.heap.size wr W := by rw [hW]; exact (Below.refl _ _).alloc (Nat.le_refl _) _
                  have hrW : W.heap[Z]? = some (.cells #[.int .i64 d.o, .slice a.x d.l.length a.c, .slice a.y d.k.length a.m, .int .i64 d.n] 33 (0, 0)) := by rw [hZ, hW]; exact heap_alloc_new _ _
                  have d1 : W.cell? ⟨Z, 1, none⟩ = some (.slice a.x d.l.length a.c) := cell_of_row _ _ _ _ _ _ hrW
                  have HCM := hide (commitM w wr W Q f v K9 n bm C1 more k d a.x a.c (unhide HE) (unhide HL) (shr6_sum (unhide HSL2)) (unhide HK9) (unhide HN) hd hbW hv2.l)
                  clear kk c0 cc1 c2 c3 hc hv2 hrW hbW hbw hd
                  go_upto_region 21 with fail
                  rw [← hW, ← hZ]
                  clear hW hZ k0 k1 k2 k3
                  go_wp2_with fail
                  refine (unhide HCM).mono ?_
                  rintro e w5 ⟨x, E, rfl, HL3⟩
                  clear HCM
                  go_wp2_with fail
                  go_roundw
                  case rel => exact ⟨k + 1, by omega, by go_num, HL3⟩
                  case measure => simp [intOf]; omega
                · obtain rfl : k = more.length := by omega
                  obtain ⟨g7, S1, f1, V, n1, ks7, h1, h2, h3, h4, h5, h6⟩ := unhide HL
                  have hn1 : n1 ≤ 4000 := by have := sumN_takeLe more more.length; have := (shr6_sum (unhide HSL2)).2.1; have := unhide HN; omega
                  have HN1 := hide hn1
                  have HK7 := hide h1
                  have HEX := hide h3
                  have HI7 := hide h5
                  have HT7 := hide h6
                  obtain ⟨K7, hK7⟩ : ∃ K7, K7 = K9 + more.length := ⟨_, rfl⟩
                  rw [← hK7] at HK7
                  have hm60 := (shr6_sum (unhide HSL2)).1
                  have hVb : V ≤ 120 := by have := h1.vk; have := unhide HK9; omega
                  clear h1 h2 h3 h4 h5 h6 HL hn1 hK7 hm60
                  have HSI := hide (since_r w g7 Q S1 f1 V K7 n1 (v : Int) wr (unhide HK7) (by have := unhide HN1; omega))
                  go_wp2_with fail
                  refine (unhide HSI).mono ?_
                  rintro e w8 ⟨a2, c2, r2, g8, rfl, HK8, HR8, HF8, HG8, hr2⟩
                  obtain ⟨i8, t8⟩ := (unhide HI7).fr (unhide HF8) (unhide HT7)
                  have HIO1 := hide (unhide HK8).io
                  have HKK1 := hide (unhide HK8).key
                  have HN0 : Hid (N4 w w8 Q S1 f f1 V K7 n1 bm C1 a2 c2 r2 0) := ⟨g8, ks7, unhide HK8, unhide HR8, i8, t8⟩
                  clear HSI HI7 HT7 HK7 HK8 HR8 HF8 i8 t8
                  have hst : str (lastK r2 0) = ⟨#[]⟩ := rfl
                  have HST := hide hst
                  clear hst
                  go_wp2_with fail
                  go_loopw [16, 79] (fun ls i wr => ∃ k : Nat, k ≤ r2.length ∧ ls = .string (str (lastK r2 k)) ∧ i = .int .i64 (k : Int) ∧ Hid (N4 w wr Q S1 f f1 V K7 n1 bm C1 a2 c2 r2 k)) (fun _ i _ => r2.length - (intOf i).toNat)
                  case atStart => exact ⟨0, Nat.zero_le _, rfl, rfl, HN0⟩
                  case round =>
                    clear HN0 HST
                    obtain ⟨k, hk, rfl, rfl, HL⟩ := hrel
                    by_cases hlt : k < r2.length
                    · have hlt' : (k : Int) < (r2.length : Int) := by omega
                      obtain ⟨x, hx⟩ : ∃ x, r2[k]? = some x := ⟨_, List.getElem?_eq_getElem hlt⟩
                      obtain ⟨g, ks, h1, h2, h3, h4⟩ := unhide HL
                      obtain ⟨G, rfl, c0, cc1, cc2, c3, cf⟩ := h2.ow.at hx
                      have hgx := (gth_iff (unhide HG8).1 x).1 (List.mem_of_getElem? hx)
                      have hxk : x.k.length ≤ maxLen := (unhide HKK1 x.k x hgx.1).2
                      have hx1 : (v : Int) < (x.t : Int) := by simpa using hgx.2
                      have hx2 : x.t ≤ V := (unhide HIO1 x.k x hgx.1).2.2
                      obtain ⟨u1, u2⟩ := last_lt (unhide HIO1) (unhide HG8).1 (unhide HG8).2 hx
                      generalize hLK : lastK r2 k = LK at *
                      have HLK1 : Hid (lastK r2 (k + 1) = x.k) := by show (match r2[k]? with | some x => x.k | none => []) = x.k; rw [hx]
                      clear hLK
                      obtain ⟨W, hW⟩ : ∃ W, W = wr.alloc (.cells #[.string (str x.k), .bool x.g, .string (str x.v), .int .i64 (x.t : Int)] 47) := ⟨_, rfl⟩
                      obtain ⟨Z, hZ⟩ : ∃ Z, Z = wr.heap.size := ⟨_, rfl⟩
                      have hbW : Below wr.heap.size wr W := by rw [hW]; exact (Below.refl _ _).alloc (Nat.le_refl _) _
                      have hrW : W.heap[Z]? = some (.cells #[.string (str x.k), .bool x.g, .string (str x.v), .int .i64 (x.t : Int)] 47 (0, 0)) := by rw [hZ, hW]; exact heap_alloc_new _ _
                      obtain ⟨w9, hw9⟩ : ∃ w9, w9 = W.drew := ⟨_, rfl⟩
                      have b9 : Below wr.heap.size wr w9 := by rw [hw9]; exact hbW.drew
                      have hr9 : w9.heap[Z]? = some (.cells #[.string (str x.k), .bool x.g, .string (str x.v), .int .i64 (x.t : Int)] 47 (0, 0)) := by rw [hw9]; exact hrW
                      have HK10 : Hid (KP w w9 (gO wr g) Q S1 f1 V K7 n1) := h1.tag.below b9
                      have HR10 : Hid (R6 w9 (gO wr g) (some ⟨G, 0, none⟩) c2 r2) := h2.fr (fr_tag g b9)
                      have HX10 : Hid (Bx6 w9 (gO wr g) Z x) := ⟨hr9, gO_ge (by omega)⟩
                      have hI10 := h3.fr (fr_tag g b9) h4
                      have HI10 : Hid (IL w9 bm (ovL (thI f) (r2.take k)) (C1 + k) ks ∧ gO wr g bm = .p 9) := hI10
                      generalize gO wr g = g10 at *
                      have k9a : w9.cell? ⟨Z, 3, none⟩ = some (.int .i64 (x.t : Int)) := cell_of_row _ _ _ _ _ _ hr9
                      have k9b : w9.cell? ⟨Z, 0, none⟩ = some (.string (str x.k)) := cell_of_row _ _ _ _ _ _ hr9
                      have HVS := hide (version_kp w g10 Q S1 f1 V K7 n1 w9 (unhide HK10))
                      obtain ⟨TI, hTI⟩ : ∃ T : Int, T = (x.t : Int) := ⟨_, rfl⟩
                      obtain ⟨VI, hVI⟩ : ∃ T : Int, T = (V : Int) := ⟨_, rfl⟩
                      have n1' : ¬ TI ≤ (v : Int) := by omega
                      have n2' : ¬ VI < TI := by omega
                      rw [← hTI] at k9a
                      rw [← hVI] at HVS
                      have HTI := hide hTI
                      clear hTI hVI
                      have HX := hide hx
                      clear h1 h2 h3 h4 cf hbW hrW hr9 b9 hI10 hx HL hgx hx1 hx2
                      rw [hw9] at k9a k9b HVS
                      go_upto_region 27 with fail
                      rw [← hW, ← hZ]
                      clear hW hZ c0 cc1 cc2 c3
                      refine wp_region_held_drew (S := fun w' => w'.cell? ⟨Z, 3, none⟩ = some (.int .i64 TI) ∧ w'.cell? ⟨Z, 0, none⟩ = some (.string (str x.k))) (by kernel_rfl) (And.intro k9a k9b) (fun hHeld => ?_)
                      refine wpAnyH_take (i := 0) (oi := ?_) (v := ?_) ?_ (by kernel_rfl) ?_ ?_ ?_ ?_ hHeld ?_
                      rotate_left 2
                      · (simp only [List.getElem?_toArray, List.getElem?_cons_zero]) <;> with_reducible rfl
                      · kernel_rfl
                      · kernel_rfl
                      · exact fun _ _ _ h => h
                      · exact Or.inl ⟨by rfl, by (intro w hSw; (try dsimp only at hSw); go_simp <;> with_reducible rfl)⟩
                      simp only [Act.put, List.setIfInBounds_toArray, List.set_cons_zero, List.set_cons_succ]
                      refine wpAnyH_take (i := 1) (oi := ?_) (v := ?_) ?_ (by kernel_rfl) ?_ ?_ ?_ ?_ hHeld ?_
                      rotate_left 2
                      · (simp only [List.getElem?_toArray, List.getElem?_cons_succ, List.getElem?_cons_zero]) <;> with_reducible rfl
                      · kernel_rfl
                      · kernel_rfl
                      · exact fun _ _ _ h => h
                      · exact Or.inl ⟨by rfl, by (intro w hSw; (try dsimp only at hSw); go_simp <;> with_reducible rfl)⟩
                      simp only [Act.put, List.setIfInBounds_toArray, List.set_cons_zero, List.set_cons_succ]
                      refine wpAnyH_take (i := 2) (oi := ?_) (v := ?_) ?_ (by kernel_rfl) ?_ ?_ ?_ ?_ hHeld ?_
                      rotate_left 2
                      · (simp only [List.getElem?_toArray, List.getElem?_cons_succ, List.getElem?_cons_zero]) <;> with_reducible rfl
                      · kernel_rfl
                      · kernel_rfl
                      · exact fun _ _ _ h => h
                      · exact Or.inl ⟨by rfl, by (intro w hSw; (try dsimp only at hSw); go_simp <;> with_reducible rfl)⟩
                      simp only [Act.put, List.setIfInBounds_toArray, List.set_cons_zero, List.set_cons_succ]
                      refine wpAnyH_take (i := 3) (oi := ?_) (v := ?_) ?_ (by kernel_rfl) ?_ ?_ ?_ ?_ hHeld ?_
                      rotate_left 2
                      · (simp only [List.getElem?_toArray, List.getElem?_cons_succ, List.getElem?_cons_zero]) <;> with_reducible rfl
                      · kernel_rfl
                      · kernel_rfl
                      · exact fun _ _ _ h => h
                      · exact Or.inl ⟨by rfl, by (intro w hSw; (try dsimp only at hSw); go_simp <;> with_reducible rfl)⟩
                      simp only [Act.put, List.setIfInBounds_toArray, List.set_cons_zero, List.set_cons_succ]
                      refine wpAnyH_take (i := 4) (oi := ?_) (v := ?_) ?_ (by kernel_rfl) ?_ ?_ ?_ ?_ hHeld ?_
                      rotate_left 2
                      · (simp only [List.getElem?_toArray, List.getElem?_cons_succ, List.getElem?_cons_zero]) <;> with_reducible rfl
                      · kernel_rfl
                      · kernel_rfl
                      · exact fun _ _ _ h => h
                      · exact Or.inl ⟨by rfl, by (intro w hSw; (try dsimp only at hSw); go_simp <;> with_reducible rfl)⟩
                      simp only [Act.put, List.setIfInBounds_toArray, List.set_cons_zero, List.set_cons_succ]
                      refine wpAnyH_take (i := 5) (oi := ?_) (v := ?_) ?_ (by kernel_rfl) ?_ ?_ ?_ ?_ hHeld ?_
                      rotate_left 2
                      · (simp only [List.getElem?_toArray, List.getElem?_cons_succ, List.getElem?_cons_zero]) <;> with_reducible rfl
                      · kernel_rfl
                      · kernel_rfl
                      · exact fun _ _ _ h => h
                      · exact Or.inl ⟨by rfl, by (intro w hSw; (try dsimp only at hSw); go_simp <;> with_reducible rfl)⟩
                      simp only [Act.put, List.setIfInBounds_toArray, List.set_cons_zero, List.set_cons_succ]
                      refine wpAnyH_take (i := 6) (oi := ?_) (v := ?_) ?_ (by kernel_rfl) ?_ ?_ ?_ ?_ hHeld ?_
                      rotate_left 2
                      · (simp only [List.getElem?_toArray, List.getElem?_cons_succ, List.getElem?_cons_zero]) <;> with_reducible rfl
                      · kernel_rfl
                      · kernel_rfl
                      · exact fun _ _ _ h => h
                      · exact Or.inl ⟨by rfl, by (intro w hSw; (try dsimp only at hSw); go_simp <;> with_reducible rfl)⟩
                      simp only [Act.put, List.setIfInBounds_toArray, List.set_cons_zero, List.set_cons_succ]
                      refine wpAnyH_take (i := 7) (oi := ?_) (v := ?_) ?_ (by kernel_rfl) ?_ ?_ ?_ ?_ hHeld ?_
                      rotate_left 2
                      · (simp only [List.getElem?_toArray, List.getElem?_cons_succ, List.getElem?_cons_zero]) <;> with_reducible rfl
                      · kernel_rfl
                      · kernel_rfl
                      · exact fun _ _ _ h => h
                      · exact Or.inl ⟨by rfl, by (intro w hSw; (try dsimp only at hSw); go_simp <;> with_reducible rfl)⟩
                      simp only [Act.put, List.setIfInBounds_toArray, List.set_cons_zero, List.set_cons_succ]
                      refine wpAnyH_ready (rs := [8]) (by kernel_rfl) (by simp) (AllReadyH.cons (o := ?_) ?_ (fun K hK => ?_) AllReadyH.nil)
                      rotate_left 1
                      · (simp only [List.getElem?_toArray, List.getElem?_cons_succ, List.getElem?_cons_zero]) <;> with_reducible rfl
                      go_simp
                      refine (unhide HVS).mono ?_
                      rintro e w10 ⟨rfl, HK11, HF11⟩
                      rw [← hw9] at HF11
                      have HX11 := hide ((unhide HX10).fr (unhide HF11))
                      have kEa : w10.cell? ⟨Z, 3, none⟩ = some (.int .i64 TI) := by rw [unhide HTI]; exact cell_of_row _ _ _ _ _ _ (unhide HX11).row
                      have kEb : w10.cell? ⟨Z, 0, none⟩ = some (.string (str x.k)) := cell_of_row _ _ _ _ _ _ (unhide HX11).row
                      clear hHeld
                      refine hK.out _ _ (And.intro kEa kEb) (fun hHeld => ?_)
                      clear hK K
                      try simp only [Act.put, List.setIfInBounds_toArray, List.set_cons_zero, List.set_cons_succ]
                      refine wpAnyH_take (i := 9) (oi := ?_) (v := ?_) ?_ (by kernel_rfl) ?_ ?_ ?_ ?_ hHeld ?_
                      rotate_left 2
                      · (simp only [List.getElem?_toArray, List.getElem?_cons_succ, List.getElem?_cons_zero]) <;> with_reducible rfl
                      · kernel_rfl
                      · kernel_rfl
                      · exact fun _ _ _ h => h
                      · exact Or.inl ⟨by rfl, by (intro w hSw; (try dsimp only at hSw); go_simp <;> with_reducible rfl)⟩
                      simp only [Act.put, List.setIfInBounds_toArray, List.set_cons_zero, List.set_cons_succ]
                      refine wpAnyH_take (i := 10) (oi := ?_) (v := ?_) ?_ (by kernel_rfl) ?_ ?_ ?_ ?_ hHeld ?_
                      rotate_left 2
                      · (simp only [List.getElem?_toArray, List.getElem?_cons_succ, List.getElem?_cons_zero]) <;> with_reducible rfl
                      · kernel_rfl
                      · kernel_rfl
                      · exact fun _ _ _ h => h
                      · exact Or.inl ⟨by rfl, by (intro w hSw; (try dsimp only at hSw); go_simp <;> with_reducible rfl)⟩
                      simp only [Act.put, List.setIfInBounds_toArray, List.set_cons_zero, List.set_cons_succ]
                      refine wpAnyH_take (i := 11) (oi := ?_) (v := ?_) ?_ (by kernel_rfl) ?_ ?_ ?_ ?_ hHeld ?_
                      rotate_left 2
                      · (simp only [List.getElem?_toArray, List.getElem?_cons_succ, List.getElem?_cons_zero]) <;> with_reducible rfl
                      · kernel_rfl
                      · kernel_rfl
                      · exact fun _ _ _ h => h
                      · exact Or.inl ⟨by rfl, by (intro w hSw; (try dsimp only at hSw); go_simp <;> with_reducible rfl)⟩
                      simp only [Act.put, List.setIfInBounds_toArray, List.set_cons_zero, List.set_cons_succ]
                      refine wpAnyH_take (i := 12) (oi := ?_) (v := ?_) ?_ (by kernel_rfl) ?_ ?_ ?_ ?_ hHeld ?_
                      rotate_left 2
                      · (simp only [List.getElem?_toArray, List.getElem?_cons_succ, List.getElem?_cons_zero]) <;> with_reducible rfl
                      · kernel_rfl
                      · kernel_rfl
                      · exact fun _ _ _ h => h
                      · exact Or.inl ⟨by rfl, by (intro w hSw; (try dsimp only at hSw); go_simp <;> with_reducible rfl)⟩
                      simp only [Act.put, List.setIfInBounds_toArray, List.set_cons_zero, List.set_cons_succ]
                      refine wpAnyH_take (i := 13) (oi := ?_) (v := ?_) ?_ (by kernel_rfl) ?_ ?_ ?_ ?_ hHeld ?_
                      rotate_left 2
                      · (simp only [List.getElem?_toArray, List.getElem?_cons_succ, List.getElem?_cons_zero]) <;> with_reducible rfl
                      · kernel_rfl
                      · kernel_rfl
                      · exact fun _ _ _ h => h
                      · exact Or.inl ⟨by rfl, by (intro w hSw; (try dsimp only at hSw); go_simp <;> with_reducible rfl)⟩
                      simp only [Act.put, List.setIfInBounds_toArray, List.set_cons_zero, List.set_cons_succ]
                      refine wpAnyH_take (i := 14) (oi := ?_) (v := ?_) ?_ (by kernel_rfl) ?_ ?_ ?_ ?_ hHeld ?_
                      rotate_left 2
                      · (simp only [List.getElem?_toArray, List.getElem?_cons_succ, List.getElem?_cons_zero]) <;> with_reducible rfl
                      · kernel_rfl
                      · kernel_rfl
                      · exact fun _ _ _ h => h
                      · exact Or.inl ⟨by rfl, by (intro w hSw; (try dsimp only at hSw); go_simp <;> with_reducible rfl)⟩
                      simp only [Act.put, List.setIfInBounds_toArray, List.set_cons_zero, List.set_cons_succ]
                      refine wpAnyH_take (i := 15) (oi := ?_) (v := ?_) ?_ (by kernel_rfl) ?_ ?_ ?_ ?_ hHeld ?_
                      rotate_left 2
                      · (simp only [List.getElem?_toArray, List.getElem?_cons_succ, List.getElem?_cons_zero]) <;> with_reducible rfl
                      · kernel_rfl
                      · kernel_rfl
                      · exact fun _ _ _ h => h
                      · exact Or.inl ⟨by rfl, by (intro w hSw; (try dsimp only at hSw); go_simp <;> with_reducible rfl)⟩
                      simp only [Act.put, List.setIfInBounds_toArray, List.set_cons_zero, List.set_cons_succ]
                      refine wpAnyH_take (i := 16) (oi := ?_) (v := ?_) ?_ (by kernel_rfl) ?_ ?_ ?_ ?_ hHeld ?_
                      rotate_left 2
                      · (simp only [List.getElem?_toArray, List.getElem?_cons_succ, List.getElem?_cons_zero]) <;> with_reducible rfl
                      · kernel_rfl
                      · kernel_rfl
                      · exact fun _ _ _ h => h
                      · exact Or.inl ⟨by rfl, by (intro w hSw; (try dsimp only at hSw); go_simp <;> with_reducible rfl)⟩
                      simp only [Act.put, List.setIfInBounds_toArray, List.set_cons_zero, List.set_cons_succ]
                      refine wpAnyH_done (by kernel_rfl) ?_ _
                      clear kEa kEb k9a k9b HVS
                      have HR11 := hide ((unhide HR10).fr (unhide HF11))
                      obtain ⟨i11, t11⟩ := (unhide HI10).1.fr (unhide HF11) (unhide HI10).2
                      have hZr := (unhide HX11).row
                      have hZl : Z < w10.heap.size := (unhide HX11).lt
                      have d0 : w10.cell? ⟨Z, 0, none⟩ = some (.string (str x.k)) := cell_of_row _ _ _ _ _ _ hZr
                      have d1 : w10.cell? ⟨Z, 1, none⟩ = some (.bool x.g) := cell_of_row _ _ _ _ _ _ hZr
                      have d2 : w10.cell? ⟨Z, 2, none⟩ = some (.string (str x.v)) := cell_of_row _ _ _ _ _ _ hZr
                      have d3 : w10.cell? ⟨Z, 3, none⟩ = some (.int .i64 (x.t : Int)) := cell_of_row _ _ _ _ _ _ hZr
                      have hZb : Z ≠ bm := fun e => by have z := (unhide HX11).tg; rw [e, t11] at z; cases z
                      obtain ⟨w11, ks2, hup0, hI12, hg12⟩ := i11.put x.k hxk (by have := unhide HC1; unfold maxLen; omega) x
                      have hup : (Instr.mapUpdate 49 (.map (some bm)) (.string (str x.k)) (.agg #[.string (str x.k), .bool x.g, .string (str x.v), .int .i64 (x.t : Int)])).run Tryz.prog w10 = .ok () w11 := hup0
                      have kz : ∀ j, w11.cell? ⟨Z, j, none⟩ = w10.cell? ⟨Z, j, none⟩ := fun j => World.cell?_of_block (w := w10) (hg12.block Z hZl (fun e => hZb (Option.some.inj e)))
                      have z0 := (kz 0).trans d0
                      have z1 := (kz 1).trans d1
                      have st9 := st9_of hg12 t11
                      have HK12 : Hid (KP w w11 g10 Q S1 f1 V K7 n1) := (unhide HK11).st9 st9
                      have HR12 : Hid (R6 w11 g10 (some ⟨G, 0, none⟩) c2 r2) := (unhide HR11).s9 st9
                      have HI12 := hide hI12
                      have HT12 := hide t11
                      have HTK : Hid (ovL (thI f) (r2.take (k + 1)) = ovI (ovL (thI f) (r2.take k)) x) := by
                        show _ = _
                        rw [List.take_add_one, unhide HX]
                        exact ovL_snoc _ _ _
                      clear hup0 hI12 hg12 kz st9 i11 t11 hZr hZl hZb HK11 HR11 HF11 HX11 HX10 HR10 HK10 HI10 hw9
                      rw [← unhide HTI] at hup d3
                      cases hgn : x.g with
                      | false =>
                        have HN2 : Hid (N4 w w11 Q S1 f f1 V K7 n1 bm C1 (some ⟨G, 0, none⟩) c2 r2 (k + 1)) := by
                          refine ⟨g10, ks2, unhide HK12, unhide HR12, ?_, unhide HT12⟩
                          rw [unhide HTK]
                          unfold ovI
                          rw [hgn, if_neg (by simp)]
                          exact unhide HI12
                        rw [hgn] at d1 z1 hup
                        clear HK12 HR12 HI12 HT12 HTK
                        go_wp2_with fail
                        go_roundw
                        case rel => exact ⟨k + 1, by omega, by rw [unhide HLK1], by go_num, HN2⟩
                        case measure => simp [intOf]; omega
                      | true =>
                        obtain ⟨DD, hDD⟩ := (unhide HI12).mp
                        have hown := hDD.1
                        have hkey := key_str x.k hxk
                        rw [hgn] at d1 z1 hup
                        go_wp2_with (at_delete; refine wpList_delete_own _ rfl _ _ 49 9 rfl 47 law Tryz.underlying49 _ bm _ DD rfl hown _ _ rfl hkey ?_; intro w12 hown2 hturn2)
                        obtain ⟨ks3, hI13⟩ := (unhide HI12).del x.k hDD hown2
                        have st9 := st9_of hturn2.grown (unhide HT12)
                        have HN2 : Hid (N4 w w12 Q S1 f f1 V K7 n1 bm C1 (some ⟨G, 0, none⟩) c2 r2 (k + 1)) := by
                          refine ⟨g10, ks3, (unhide HK12).st9 st9, (unhide HR12).s9 st9, ?_, unhide HT12⟩
                          rw [unhide HTK]
                          unfold ovI
                          rw [hgn, if_pos rfl]
                          rw [upd_upd6] at hI13
                          exact hI13
                        clear HK12 HR12 HI12 HT12 HTK hown hown2 hturn2 hI13 st9 hkey hDD
                        go_wp2_with fail
                        go_roundw
                        case rel => exact ⟨k + 1, by omega, by rw [unhide HLK1], by go_num, HN2⟩
                        case measure => simp [intOf]; omega
                    · obtain rfl : k = r2.length := by omega
                      obtain ⟨g, ks, h1, h2, h3, h4⟩ := unhide HL
                      rw [List.take_length, news_math (unhide HEX) (unhide HIO) (unhide HKK1) (unhide HG8).1 (unhide HG8).2] at h3
                      have HI9 := hide h3
                      have HT9 := hide h4
                      have HKS : Hid (ks.Nodup ∧ ∀ n, n ∈ ks ↔ thI f1 n ≠ none) := ⟨h3.nd, h3.mem⟩
                      have e1 : str ([] : Nm) = ⟨#[]⟩ := rfl
                      have hsc := scan_r w g Q S1 f1 V K7 n1 [] [] wr h1 (by have := unhide HN1; omega)
                      rw [e1] at hsc
                      have HSC := hide hsc
                      clear hsc h1 h2 h3 h4 HL e1
                      generalize C1 + r2.length = C2 at *
                      go_wp2_with fail
                      refine (unhide HSC).mono ?_
                      rintro e w9 ⟨a3, c3, r3, g9, rfl, HK9b, HR9, HF9, HG9, hr3⟩
                      obtain ⟨i9, t9⟩ := (unhide HI9).fr (unhide HF9) (unhide HT9)
                      have hcnt : ks.length = r3.length := count_th (unhide HG9).1 (unhide HG9).2 (unhide HKK1) (unhide HKS).1 (unhide HKS).2
                      have hlen := fun ty => i9.len ty
                      rw [hcnt] at hlen
                      have HN0 : Hid (N5 w w9 Q S1 f1 V K7 n1 bm C2 a3 c3 r3) := ⟨g9, ks, unhide HK9b, unhide HR9, i9, t9⟩
                      clear HSC HI9 HT9 HKS HK9b HR9 HF9 i9 t9 hcnt
                      go_wp2_with fail
                      go_loopw [121] (fun i wr => ∃ k : Nat, k ≤ r3.length ∧ i = .int .i64 (k : Int) ∧ Hid (N5 w wr Q S1 f1 V K7 n1 bm C2 a3 c3 r3)) (fun i _ => r3.length - (intOf i).toNat)
                      case atStart => exact ⟨0, Nat.zero_le _, rfl, HN0⟩
                      case round =>
                        clear HN0 hlen
                        obtain ⟨k, hk, rfl, HL⟩ := hrel
                        obtain ⟨g, ks, h1, h2, h3, h4⟩ := unhide HL
                        by_cases hlt : k < r3.length
                        · have hlt' : (k : Int) < (r3.length : Int) := by omega
                          obtain ⟨x, hx⟩ : ∃ x, r3[k]? = some x := ⟨_, List.getElem?_eq_getElem hlt⟩
                          obtain ⟨G, rfl, c0, cc1, cc2, cc3, cf⟩ := h2.ow.at hx
                          have hth := (scan_th (unhide HG9).1 x).1 (List.mem_of_getElem? hx)
                          have hgx := (gth_iff (unhide HG9).1 x).1 (List.mem_of_getElem? hx)
                          have hxk : x.k.length ≤ maxLen := (unhide HKK1 x.k x hgx.1).2
                          obtain ⟨W, hW⟩ : ∃ W, W = wr.alloc (.cells #[.string (str x.k), .bool x.g, .string (str x.v), .int .i64 (x.t : Int)] 47) := ⟨_, rfl⟩
                          obtain ⟨Z, hZ⟩ : ∃ Z, Z = wr.heap.size := ⟨_, rfl⟩
                          have hbW : Below wr.heap.size wr W := by rw [hW]; exact (Below.refl _ _).alloc (Nat.le_refl _) _
                          have hrW : W.heap[Z]? = some (.cells #[.string (str x.k), .bool x.g, .string (str x.v), .int .i64 (x.t : Int)] 47 (0, 0)) := by rw [hZ, hW]; exact heap_alloc_new _ _
                          have d0 : W.cell? ⟨Z, 0, none⟩ = some (.string (str x.k)) := cell_of_row _ _ _ _ _ _ hrW
                          have d1 : W.cell? ⟨Z, 1, none⟩ = some (.bool x.g) := cell_of_row _ _ _ _ _ _ hrW
                          have d2 : W.cell? ⟨Z, 2, none⟩ = some (.string (str x.v)) := cell_of_row _ _ _ _ _ _ hrW
                          have d3 : W.cell? ⟨Z, 3, none⟩ = some (.int .i64 (x.t : Int)) := cell_of_row _ _ _ _ _ _ hrW
                          have hlk0 := (h3.im.at x.k hxk W (hbW.block bm h3.lt)).1
                          unfold igA at hlk0
                          rw [hth] at hlk0
                          have hlk : (Instr.lookup 49 (.map (some bm)) (.string (str x.k)) false).run Tryz.prog W = .ok (.agg #[.string (str x.k), .bool x.g, .string (str x.v), .int .i64 (x.t : Int)]) W := hlk0
                          have hg : Tryz.prog.eqGuardType Tryz.prog.depth 47 = false := by kernel_rfl
                          have kq := neqM x
                          have fr := (Fr.refl wr g).bel hbW
                          have HN2 : Hid (N5 w W Q S1 f1 V K7 n1 bm C2 (some ⟨G, 0, none⟩) c3 r3) := ⟨g, ks, h1.below hbW, h2.fr fr, (h3.fr fr h4).1, h4⟩
                          clear h1 h2 h3 h4 cf hbW hrW hx HL hgx hth hlk0 fr
                          go_upto_region 40 with fail
                          rw [← hW, ← hZ]
                          clear hW hZ c0 cc1 cc2 cc3
                          go_wp2_with fail
                          go_roundw
                          case rel => exact ⟨k + 1, by omega, by go_num, HN2⟩
                          case measure => simp [intOf]; omega
                        · obtain rfl : k = r3.length := by omega
                          have HAK := hide (awake_kp (unhide HE) h1)
                          clear h1 h2 h3 h4 HL
                          go_wp2_with fail
                          refine (unhide HAK).mono ?_
                          rintro e wz ⟨rfl, HBz⟩
                          go_wp2_with fail
                          go_ret
                          exact ⟨rfl, HBz⟩
#print axioms news6
theorem kvstoreNews_walk (p : Option Addr) (c : Nat) (l : List D6) (q : Option Addr) (qc : Nat) (more : List D6) (w : World) (h : DR6 w p l) (hm : DR6 w q more) (hE : EnvS w) :
    Calls Tryz.prog 4 #[.slice p l.length c, .slice q more.length qc] w fun e w' => e = .returned (.bool true) ∧ Below w.heap.size w w' :=
  (news6 w p c l q qc more h hm hE).mono fun e w' q => ⟨q.1, q.2⟩
end Go.Proofs.YtmcgghjeocnpnaaGreatDoor
end
