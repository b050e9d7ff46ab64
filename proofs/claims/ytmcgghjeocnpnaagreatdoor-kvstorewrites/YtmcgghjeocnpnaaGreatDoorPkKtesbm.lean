/-
  kvstore's statements: a call more ahead of a row of calls; what Get says behind a commit.; kvstore's statements: KvstoreWrites.
-/
import Derived.Test.YtmcgghjeocnpnaaGreatDoorPkKtesbl
import Derived.Deep.Upon
section
set_option linter.unusedVariables false
set_option maxRecDepth 1000000
namespace Go.Proofs.YtmcgghjeocnpnaaGreatDoor
open Go.RowKit Go.Maps Go.MuLone

theorem Tryz.infoD6 : (Tryz.prog.info? 33).map (fun i => (i.zero, i.size, i.bytes)) = some (some (.agg #[.int .i64 0, .slice none 0 0, .slice none 0 0, .int .i64 0]), 4, 64) := by kernel_rfl
def dsC (L : List (D6 × A6)) : List Value := L.flatMap fun x => (DV6.cells x.1 x.2).toList
theorem dsC_length (L : List (D6 × A6)) : (dsC L).length = L.length * 4 := by
  induction L with
  | nil => rfl
  | cons t r ih => simp [dsC, DV6.cells] at ih ⊢; omega
theorem dsC_one (L : List (D6 × A6)) : ∀ u ∈ dsC L, u.oneCell' = true := by
  intro u hu
  obtain ⟨t, _, ht⟩ := List.mem_flatMap.1 hu
  simp [DV6.cells] at ht
  rcases ht with rfl | rfl | rfl | rfl <;> rfl
theorem dsC_get : ∀ (L : List (D6 × A6)) (i j : Nat) (t : D6 × A6), L[i]? = some t → j < 4 → (dsC L)[i * 4 + j]? = (DV6.cells t.1 t.2).toList[j]?
  | [], i, j, t, h, _ => by simp at h
  | u :: r, 0, j, t, h, hj => by
    simp at h
    subst h
    show ((DV6.cells u.1 u.2).toList ++ dsC r)[0 * 4 + j]? = _
    rw [List.getElem?_append_left (by simp [DV6.cells]; omega)]
    simp
  | u :: r, i + 1, j, t, h, hj => by
    show ((DV6.cells u.1 u.2).toList ++ dsC r)[(i + 1) * 4 + j]? = _
    have e : (i + 1) * 4 + j = (DV6.cells u.1 u.2).toList.length + (i * 4 + j) := by simp [DV6.cells]; omega
    rw [e, List.getElem?_append_right (by omega), Nat.add_sub_cancel_left]
    exact dsC_get r i j t (by simpa using h) hj
/-- A row of calls, each with its places. -/
theorem DR6.pairs {w : World} {b off : Nat} {l : List D6} (h : ∀ t d, l[t]? = some d → ∃ a, DV6 w d a ∧ w.cell? ⟨b, off + t * 4, none⟩ = some (.int .i64 d.o) ∧ w.cell? ⟨b, off + t * 4 + 1, none⟩ = some (.slice a.x d.l.length a.c) ∧ w.cell? ⟨b, off + t * 4 + 2, none⟩ = some (.slice a.y d.k.length a.m) ∧ w.cell? ⟨b, off + t * 4 + 3, none⟩ = some (.int .i64 d.n)) :
    ∃ L : List (D6 × A6), L.map (·.1) = l ∧ ∀ t x, L[t]? = some x → DV6 w x.1 x.2 ∧ ∀ j u, (DV6.cells x.1 x.2).toList[j]? = some u → w.cell? ⟨b, off + t * 4 + j, none⟩ = some u := by
  have each : ∀ t : Nat, ∃ a : A6, ∀ d, l[t]? = some d → DV6 w d a ∧ ∀ j u, (DV6.cells d a).toList[j]? = some u → w.cell? ⟨b, off + t * 4 + j, none⟩ = some u := by
    intro t
    cases hd : l[t]? with
    | none => exact ⟨⟨none, 0, none, 0⟩, fun d h' => by cases h'⟩
    | some d =>
      obtain ⟨a, h1, c0, c1, c2, c3⟩ := h t d hd
      refine ⟨a, fun d' h' => ?_⟩
      obtain rfl := Option.some.inj h'
      refine ⟨h1, fun j u hu => ?_⟩
      match j, hu with
      | 0, hu => obtain rfl := Option.some.inj hu; exact c0
      | 1, hu => obtain rfl := Option.some.inj hu; exact c1
      | 2, hu => obtain rfl := Option.some.inj hu; exact c2
      | 3, hu => obtain rfl := Option.some.inj hu; exact c3
      | j + 4, hu => simp [DV6.cells] at hu
  obtain ⟨A, hA⟩ : ∃ A : Nat → A6, ∀ t d, l[t]? = some d → DV6 w d (A t) ∧ ∀ j u, (DV6.cells d (A t)).toList[j]? = some u → w.cell? ⟨b, off + t * 4 + j, none⟩ = some u := ⟨fun t => (each t).choose, fun t => (each t).choose_spec⟩
  refine ⟨l.zipIdx.map (fun x => (x.1, A x.2)), ?_, fun t x hx => ?_⟩
  · rw [List.map_map]
    exact List.zipIdx_map_fst 0 l
  · rw [List.getElem?_map, List.getElem?_zipIdx] at hx
    cases hd : l[t]? with
    | none => rw [hd] at hx; simp at hx
    | some d =>
      rw [hd] at hx
      simp at hx
      subst hx
      exact hA t d hd
theorem dr6_mk {w : World} {g : Nat} {L : List (D6 × A6)} {cur : Array Value} {T : TypeId} (hg : w.heap[g]? = some (.cells cur T (0, 0))) (hc : cur.toList.take (L.length * 4) = dsC L) (hl : L.length ≤ maxLen) (hv : ∀ x ∈ L, DV6 w x.1 x.2) : DR6 w (some ⟨g, 0, none⟩) (L.map (·.1)) := by
  refine ⟨fun _ => ⟨g, 0, rfl, fun t d hd => ?_⟩, by simpa using hl⟩
  rw [List.getElem?_map] at hd
  obtain ⟨x, hx, rfl⟩ : ∃ x, L[t]? = some x ∧ x.1 = d := by
    cases h : L[t]? with
    | none => rw [h] at hd; simp at hd
    | some x => rw [h] at hd; exact ⟨x, rfl, by simpa using hd⟩
  have hlt := (List.getElem?_eq_some_iff.1 hx).1
  have key : ∀ j, j < 4 → w.cell? ⟨g, 0 + t * 4 + j, none⟩ = (DV6.cells x.1 x.2).toList[j]? := by
    intro j hj
    rw [Nat.zero_add, cell_of_row w g (t * 4 + j) cur _ (0, 0) hg, ← dsC_get L t j x hx hj, ← hc, List.getElem?_take, if_pos (by omega)]
    simp
  exact ⟨x.2, hv x (List.mem_of_getElem? hx), key 0 (by omega), key 1 (by omega), key 2 (by omega), key 3 (by omega)⟩
/-- append of a row of calls onto one call. -/
theorem wp_appD (w0 w : World) {ops : Array Oper} {rest : List Oper} {o : Oper} {a : Act} {Q : Exit → Act → World → Prop} (hgd : o.guard = none) (s x : Operand)
    (ho : o.op = .call { callee := .builtin .append, args := #[s, x], argTypes := #[22, 22] })
    (G : Nat) (d0 : D6) (a0 : A6) (hs : a.eval s = .slice (some ⟨G, 0, none⟩) 1 1) (hrow : w.heap[G]? = some (.cells (DV6.cells d0 a0) 33 (0, 0))) (hG : w0.heap.size ≤ G) (hb : Below w0.heap.size w0 w) (hd0 : DV6 w0 d0 a0)
    (p : Option Addr) (c n : Nat) (l : List D6) (hx : a.eval x = .slice p n c) (hn : n = l.length) (hl : DR6 w0 p l) (hlen : l.length * 64 ≤ 140737488351232)
    (h : ∀ g cap r w', Hid (r = l.length + 1) → Hid (DR6 w' (some ⟨g, 0, none⟩) (d0 :: l)) → Hid (Below w0.heap.size w0 w') → wpList Tryz.prog ops Q rest (a.put o.dst (.slice (some ⟨g, 0, none⟩) r cap)) w') : wpList Tryz.prog ops Q (o :: rest) a w := by
  subst hn
  obtain ⟨i, hi, hz0, hz1, hz2⟩ := info_parts Tryz.infoD6
  have hd1 : DV6 w d0 a0 := hd0.below hb (Nat.le_refl _)
  by_cases hne : l = []
  · subst hne
    have hrun : ∀ ty, (Builtin.append_ #[22, 22] ty #[.slice (some ⟨G, 0, none⟩) 1 1, .slice p 0 c]).run Tryz.prog w = .ok (.slice (some ⟨G, 0, none⟩) 1 1) w := by
      intro ty
      refine run_append_nothing w _ _ ty 33 i Tryz.underlying22 hi _ 1 1 (Nat.le_refl _) _ ?_
      cases p with
      | none => exact Src.ofNil w Tryz.underlying22 c
      | some ad => exact Src.ofSlice w Tryz.underlying22 ad 0 c [] (by simp) (fun j u hu => by simp at hu) (fun u hu => by cases hu)
    refine Lib.wpList_append_run w hgd s x _ _ ho _ _ hs hx _ _ (hrun _) ?_
    exact h G 1 1 w rfl (dr6_mk (L := [(d0, a0)]) hrow (by simp [dsC, DV6.cells]) (by simp [maxLen]) (fun x hx => by obtain rfl := List.mem_singleton.1 hx; exact hd1)) hb
  · obtain ⟨b, off, rfl, hc⟩ := hl.mem hne
    obtain ⟨L, hL1, hL2⟩ := DR6.pairs hc
    have hLl : L.length = l.length := by rw [← hL1]; simp
    have kk : ∀ {q : Addr} {v : Value}, w0.cell? q = some v → w.cell? q = some v := fun {q v} e => by
      rw [hb.cell (World.block_lt_of_cell? w0 _ e)]; exact e
    have hown : w.ownsRow w0.heap.size 33 4 (.slice (some ⟨G, 0, none⟩) 1 1) 1 (dsC [(d0, a0)]) := by
      refine ⟨by rw [dsC_length]; rfl, .inr ⟨G, 1, _, rfl, hG, hrow, Nat.le_refl _, by simp [maxLen], rfl, by simp [dsC, DV6.cells]⟩⟩
    refine wpList_append_own w hgd s x 22 ho w0.heap.size 33 i _ 4 64 Tryz.underlying22 hi hz0 hz1 hz2 rfl (by decide) _ _ _ hs hown ⟨b, off, none⟩ l.length c (dsC L) hx (by rw [dsC_length, hLl]) ?_ (dsC_one L) (by unfold maxLen; omega) (by omega) hb.size ?_
    · intro j u hu
      obtain ⟨t, r, hjr, hr4⟩ : ∃ t r, j = t * 4 + r ∧ r < 4 := ⟨j / 4, j % 4, by omega, by omega⟩
      subst hjr
      have hj := (List.getElem?_eq_some_iff.1 hu).1
      rw [dsC_length] at hj
      obtain ⟨x, hx⟩ : ∃ x, L[t]? = some x := ⟨_, List.getElem?_eq_getElem (by omega)⟩
      rw [dsC_get L t r x hx hr4] at hu
      rw [addr_add]
      have := kk ((hL2 t x hx).2 r u hu)
      rw [Nat.add_assoc] at this
      exact this
    · intro v' w' h1 h2 h3
      have e2 : dsC [(d0, a0)] ++ dsC L = dsC ((d0, a0) :: L) := by simp [dsC]
      rw [e2] at h1
      have hb' : Below w0.heap.size w0 w' := below_grown (a := some ⟨G, 0, none⟩) hb h2 (Nat.le_refl _) (fun k hk => by simp [blk] at hk; omega)
      rcases h1.2 with ⟨hv, hn⟩ | ⟨g, cap, cur, hv, hbb, hg, hle, hm, hs4, ht⟩
      · omega
      · subst hv
        refine h g cap (1 + l.length) w' (by show _ = _; omega) ?_ hb'
        have e3 : (d0 :: l) = ((d0, a0) :: L).map (·.1) := by simp [hL1]
        rw [e3]
        refine dr6_mk hg (by rw [List.length_cons, hLl, Nat.add_comm]; exact ht) (by rw [List.length_cons, hLl]; unfold maxLen; omega) (fun x hx => ?_)
        rcases List.mem_cons.1 hx with rfl | hx
        · exact hd0.below hb' (Nat.le_refl _)
        · obtain ⟨t, ht'⟩ := List.getElem?_of_mem hx
          exact (hL2 t x ht').1.below hb' (Nat.le_refl _)
#print axioms wp_appD
/-! ### what Get says behind a commit -/
theorem put_miss {n : Nm} : ∀ {l : List Im} {f : Its}, (∀ x ∈ l, x.k ≠ n) → f.put l n = f n := by
  intro l
  induction l with
  | nil => intro f _; rfl
  | cons a r ih =>
    intro f h
    show Its.put (upd f a.k (some a)) r n = f n
    rw [ih (fun x hx => h x (List.mem_cons_of_mem _ hx))]
    exact upd_other _ _ _ _ (Ne.symm (h a List.mem_cons_self))
theorem put_hit : ∀ {l : List Im} {f : Its} {k : Nat} {x : Im}, l[k]? = some x → (∀ j y, k < j → l[j]? = some y → y.k ≠ x.k) → f.put l x.k = some x := by
  intro l
  induction l with
  | nil => intro f k x h; simp at h
  | cons a r ih =>
    intro f k x h hd
    show Its.put (upd f a.k (some a)) r x.k = some x
    cases k with
    | zero =>
      simp at h
      subst h
      rw [put_miss (fun y hy => ?_)]
      · exact upd_same _ _ _
      · obtain ⟨j, hj⟩ := List.getElem?_of_mem hy
        exact hd (j + 1) y (by omega) (by simpa using hj)
    | succ k => exact ih (by simpa using h) (fun j y hj hy => hd (j + 1) y (by omega) (by simpa using hy))
theorem wr_hit {f : Its} {l : List Op6} {t k : Nat} {o : Op6} (hl : OkO l) (h : l[k]? = some o) : f.put (wrI l t) o.k = some ⟨o.k, o.g, o.v, t⟩ := by
  refine put_hit (k := k) (x := ⟨o.k, o.g, o.v, t⟩) (by unfold wrI; rw [List.getElem?_map, h]; rfl) (fun j y hj hy => ?_)
  unfold wrI at hy
  rw [List.getElem?_map] at hy
  cases hp : l[j]? with
  | none => rw [hp] at hy; simp at hy
  | some q =>
    rw [hp] at hy
    simp at hy
    subst hy
    exact (hl.apart k j o q hj h hp).symm
theorem wr_miss {f : Its} {l : List Op6} {t : Nat} {n : Nm} (h : ∀ o ∈ l, o.k ≠ n) : f.put (wrI l t) n = f n := put_miss (fun x hx => by
  obtain ⟨o, ho, rfl⟩ := List.mem_map.1 hx
  exact h o ho)
#print axioms wr_hit
end Go.Proofs.YtmcgghjeocnpnaaGreatDoor
end
section
set_option linter.unusedVariables false
set_option maxRecDepth 1000000
namespace Go.Proofs.YtmcgghjeocnpnaaGreatDoor
open Go.RowKit Go.Maps Go.MuLone

theorem eqM (x : Im) (w : World) : (binOp .eql 47 (.agg #[.string (str x.k), .bool x.g, .string (str x.v), .int .i64 (x.t : Int)]) (.agg #[.string (str x.k), .bool x.g, .string (str x.v), .int .i64 (x.t : Int)])).run Tryz.prog w = .ok (.bool true) w := by
  have hS : Tryz.prog.underlying 47 = some (.struct (Tryz.prog.fieldsOf 47)) := by kernel_rfl
  have hp : Tryz.prog.stoodInHeld 47 = false := by kernel_rfl
  rw [run_eql_struct, show (10000 : Nat) = 9999 + 1 from rfl, run_equalIn_agg w 9999 47 _ _ hS hp]
  simp only [Program.fieldsOf, Tryz.underlying47]
  have u9 := Tryz.underlying9
  have u4 := Tryz.underlying4
  have u3 := Tryz.underlying3
  have t1 : (str x.k).toList = x.k := toList_str x.k
  have t2 : (str x.v).toList = x.v := toList_str x.v
  go_simp
/-- A box with an item that belongs to no store. -/
structure Bx6 (w : World) (g : Nat → Tg) (Z : Nat) (x : Im) : Prop where
  row : w.heap[Z]? = some (.cells #[.string (str x.k), .bool x.g, .string (str x.v), .int .i64 (x.t : Int)] 47 (0, 0))
  tg : g Z = .o
theorem Bx6.lt {w : World} {g : Nat → Tg} {Z : Nat} {x : Im} (h : Bx6 w g Z x) : Z < w.heap.size := (Array.getElem?_eq_some_iff.1 h.row).1
theorem Bx6.fr {w w' : World} {g g' : Nat → Tg} {Z : Nat} {x : Im} (h : Bx6 w g Z x) (f : Fr w w' g g') : Bx6 w' g' Z x := ⟨(f.block Z h.lt h.tg).trans h.row, (f.ag Z h.lt).trans h.tg⟩
/-- A store behind the commit, and what the key had ahead of it. -/
def WrL (w0 w : World) (Q : Nat) (f1 : Its) (V1 n Z : Nat) (X : Im) (key : Nm) (ops : List Op6) (k : Nat) : Prop :=
  (∃ g S K, KP w0 w g Q S f1 V1 K n ∧ Bx6 w g Z X) ∧ ∀ j o, j < k → ops[j]? = some o → o.k ≠ key
theorem since_same {f : Its} {p : Im → Bool} {l l' : List Im} (h : Gth f p (fun _ => false) l ∧ Rise l) (h' : Gth f p (fun _ => false) l' ∧ Rise l') : l = l' :=
  rise_one h.2 h'.2 (fun x => (gth_iff h.1 x).trans (gth_iff h'.1 x).symm)
theorem gt_hit {f : Its} {n : Nm} {x : Im} (h : f n = some x) : gtI f n = (if x.g then zI else x) ∧ gtB f n = !x.g := by
  unfold gtI gtB
  rw [h]
  exact ⟨rfl, rfl⟩
theorem gt_same {f f' : Its} {n : Nm} (h : f n = f' n) : gtI f n = gtI f' n ∧ gtB f n = gtB f' n := by
  unfold gtI gtB
  rw [h]
  exact ⟨rfl, rfl⟩
theorem short_cons {d : D6} {l : List D6} (h : shr6 (d :: l) = true) : (l.length ≤ 60 ∧ sumN l ≤ 2000 ∧ sumB l ≤ 262144) ∧ opsB d.l ≤ 262144 ∧ l.length ≤ 59 := by
  obtain ⟨h1, h2, h3⟩ := shr6_sum h
  have e1 : sumN (d :: l) = d.l.length + sumN l := by simp [sumN]
  have e2 : sumB (d :: l) = opsB d.l + sumB l := by simp [sumB]
  simp only [List.length_cons] at h1
  exact ⟨⟨by omega, by omega, by omega⟩, by omega, by omega⟩
set_option maxHeartbeats 16000000 in
theorem writes6 (w : World) (p : Option Addr) (c : Nat) (l : List D6) (q : Option Addr) (qc : Nat) (ops : List Op6) (key : Nm) (h : DR6 w p l) (hl : l.length * 64 ≤ 140737488351232) (ho : OpR6 w q ops) (hkey : key.length ≤ maxLen) (hE : EnvS w) :
    Calls Tryz.prog 5 #[.slice p l.length c, .slice q ops.length qc, .string (str key)] w fun e w' => e = .returned (.bool true) ∧ Hid (Below w.heap.size w w') := by
  have HAW : Hid (∀ u, Below w.heap.size w u → Calls Tryz.prog 10 #[] u fun e w' => e = .returned (.bool true) ∧ Hid (Below w.heap.size w w')) := fun u hu => awake6 w (fun _ => .o) u hE ⟨hu, fun _ _ => rfl⟩
  have HBG : Hid (∀ u, Below w.heap.size w u → Calls Tryz.prog 11 #[.int .i64 16777216] u fun e w' => ∃ D Q, e = .returned (.tuple #[.pointer (some ⟨D, 0, none⟩), .pointer (some ⟨Q, 0, none⟩), .bool true]) ∧ Hid (KS0 w w' Q 16777216)) := fun u hu => begun6 w (fun _ => .o) 16777216 u hE ⟨hu, fun _ _ => rfl⟩ (by omega) (by omega)
  have HE := hide hE
  have HH := hide h
  have HOP := hide ho
  have HKY := hide hkey
  have hle := h.le
  have hole := ho.le
  unfold maxLen at hle hole
  have HD0 : Hid (DV6 w ⟨0, ops, [], 0⟩ ⟨q, qc, none, 0⟩) := ⟨ho, fun e => absurd rfl e, Nat.zero_le _⟩
  clear h hE ho hkey
  go_enter Tryz.func5, Tryz.ntmps5
  go_wp2_with (at_builtin; refine wp_appD w _ rfl _ _ rfl w.heap.size ⟨0, ops, [], 0⟩ ⟨q, qc, none, 0⟩ rfl (heap_alloc_new _ _) (Nat.le_refl _) ((Below.refl _ _).alloc (Nat.le_refl _) _) (unhide HD0) p c _ l rfl rfl (unhide HH) hl ?_)
  intro g1 cap1 r1 w1 HR1 HD1 HB1
  have hsh := short6 (some ⟨g1, 0, none⟩) cap1 (⟨0, ops, [], 0⟩ :: l) w1 (unhide HD1)
  rw [show (⟨0, ops, [], 0⟩ :: l : List D6).length = r1 from (unhide HR1).symm] at hsh
  have HSH := hide hsh
  clear hsh HD1 HR1 HD0
  generalize hsl : shr6 (⟨0, ops, [], 0⟩ :: l) = sl at *
  have HSL := hide hsl
  clear hsl
  go_wp2_with fail
  refine (unhide HSH).mono ?_
  rintro e w2 ⟨rfl, HB2⟩
  have HB3 : Hid (Below w.heap.size w w2) := (unhide HB1).trans ((unhide HB2).mono (unhide HB1).size)
  clear HSH HB1 HB2
  have HAA := hide (unhide HAW w2 (unhide HB3))
  cases sl with
  | false =>
    go_wp2_with fail
    refine (unhide HAA).mono ?_
    rintro e wz ⟨rfl, HBz⟩
    go_wp2_with fail
    go_ret
    exact ⟨rfl, HBz⟩
  | true =>
    have hsum := short_cons (unhide HSL)
    have HSM := hide hsum.1
    have hopb := hsum.2.1
    have hl59 := hsum.2.2
    clear hsum
    simp only at hopb
    have HOB := hide hopb
    clear hopb
    have HBB := hide (unhide HBG w2 (unhide HB3))
    go_wp2_with fail
    refine (unhide HBB).mono ?_
    rintro e w3 ⟨D, Q, rfl, HK0⟩
    have HL0 : Hid (LpS w w3 Q l 0) := LpS.start l (unhide HK0)
    clear HBB HK0 HBG HAW HAA HB3
    go_wp2_with fail
    go_loopw [42] (fun i wr => ∃ k : Nat, k ≤ l.length ∧ i = .int .i64 (k : Int) ∧ Hid (LpS w wr Q l k)) (fun i _ => l.length - (intOf i).toNat)
    case atStart => exact ⟨0, Nat.zero_le _, rfl, HL0⟩
    case round =>
      clear HL0
      obtain ⟨k, hk, rfl, HL⟩ := hrel
      by_cases hlt : k < l.length
      · have hlt' : (k : Int) < (l.length : Int) := by omega
        obtain ⟨d, hd⟩ : ∃ d, l[k]? = some d := ⟨_, List.getElem?_eq_getElem hlt⟩
        have hbw : Below w.heap.size w wr := by
          obtain ⟨g, S, f, v, n, h1, _⟩ := unhide HL
          exact h1.lw.below
        obtain ⟨b, off, rfl, hc⟩ := (unhide HH).mem (by intro e; subst e; simp at hd)
        obtain ⟨a, hv, c0, c1, c2, c3⟩ := hc k d hd
        have kk : ∀ {q : Addr} {v : Value}, w.cell? q = some v → wr.cell? q = some v := fun {q v} e => by
          rw [hbw.cell (World.block_lt_of_cell? w _ e)]; exact e
        have k0 := kk c0
        have k1 := kk c1
        have k2 := kk c2
        have k3 := kk c3
        obtain ⟨W, hW⟩ : ∃ W, W = wr.alloc (.cells #[.int .i64 d.o, .slice a.x d.l.length a.c, .slice a.y d.k.length a.m, .int .i64 d.n] 33) := ⟨_, rfl⟩
        obtain ⟨Z, hZ⟩ : ∃ Z, Z = wr.heap.size := ⟨_, rfl⟩
        have hbW : Below wr.heap.size wr W := by rw [hW]; exact (Below.refl _ _).alloc (Nat.le_refl _) _
        have hrW : W.heap[Z]? = some (.cells #[.int .i64 d.o, .slice a.x d.l.length a.c, .slice a.y d.k.length a.m, .int .i64 d.n] 33 (0, 0)) := by rw [hZ, hW]; exact heap_alloc_new _ _
        have d1 : W.cell? ⟨Z, 1, none⟩ = some (.slice a.x d.l.length a.c) := cell_of_row _ _ _ _ _ _ hrW
        have HCM := hide (commitL w wr W Q l k d a.x a.c (unhide HE) (unhide HL) (unhide HSM) hd hbW hv.l)
        clear kk c0 c1 c2 c3 hc hv hrW hbW hbw hd
        go_upto_region 9 with fail
        rw [← hW, ← hZ]
        clear hW hZ k0 k1 k2 k3
        go_wp2_with fail
        refine (unhide HCM).mono ?_
        rintro e w4 ⟨x, E, rfl, HL3⟩
        clear HCM
        go_wp2_with fail
        go_roundw
        case rel => exact ⟨k + 1, by omega, by go_num, HL3⟩
        case measure => simp [intOf]; omega
      · obtain rfl : k = l.length := by omega
        obtain ⟨g0, S, f, v, n, q1, q2⟩ := unhide HL
        have hn : n ≤ 2000 := by have := sumN_takeLe l l.length; have := (unhide HSM).2.1; omega
        have HN := hide hn
        have hvk := q1.vk
        have HK := hide q1
        generalize hK9 : l.length = K9 at *
        have HK9 : Hid (K9 ≤ 59) := hl59
        have hv : v ≤ 59 := by omega
        clear q1 q2 HL hn hK9 hvk hl59
        have HV1 := hide (version_kp w g0 Q S f v K9 n wr (unhide HK))
        go_wp2_with fail
        refine (unhide HV1).mono ?_
        rintro e w4 ⟨rfl, HK4, HF4⟩
        clear HV1 HK HF4
        have HV2 := hide (bytes_kp w g0 Q S f v K9 n w4 (unhide HK4) (by have := unhide HK9; omega))
        go_wp2_with fail
        refine (unhide HV2).mono ?_
        rintro e w5 ⟨rfl, HK5, HF5⟩
        clear HV2 HK4 HF5
        have HV3 := hide (since_r w g0 Q S f v K9 n 0 w5 (unhide HK5) (by have := unhide HN; omega))
        go_wp2_with fail
        refine (unhide HV3).mono ?_
        rintro e w6 ⟨a1, c1, l1, g6, rfl, HK6, HR6, HF6, HG6, hl1⟩
        clear HV3 HK5 HF6
        have hgk := get_kp w g6 Q S f v K9 n key w6 (unhide HK6) (unhide HKY)
        generalize hX : gtI f key = X at hgk
        generalize hXb : gtB f key = Xb at hgk
        rw [show imA X = .agg #[.string (str X.k), .bool X.g, .string (str X.v), .int .i64 (X.t : Int)] from rfl] at hgk
        have HX : Hid (gtI f key = X ∧ gtB f key = Xb) := ⟨hX, hXb⟩
        have HV4 := hide hgk
        clear hgk hX hXb
        go_wp2_with fail
        refine (unhide HV4).mono ?_
        rintro e w7 ⟨rfl, HQ7⟩
        obtain ⟨g7, k7, f7⟩ := unhide HQ7
        obtain ⟨W8, hW8⟩ : ∃ W, W = w7.alloc (.cells #[.string (str X.k), .bool X.g, .string (str X.v), .int .i64 (X.t : Int)] 47) := ⟨_, rfl⟩
        obtain ⟨Z, hZ⟩ : ∃ Z, Z = w7.heap.size := ⟨_, rfl⟩
        have b8 : Below w7.heap.size w7 W8 := by rw [hW8]; exact (Below.refl _ _).alloc (Nat.le_refl _) _
        have HK8 : Hid (KP w W8 (gO w7 g7) Q S f v K9 n) := k7.tag.below b8
        have HR8 : Hid (R6 W8 (gO w7 g7) a1 c1 l1) := ((unhide HR6).fr f7).fr (fr_tag g7 b8)
        have HX8 : Hid (Bx6 W8 (gO w7 g7) Z X) := ⟨by rw [hZ, hW8]; exact heap_alloc_new _ _, gO_ge (by omega)⟩
        generalize gO w7 g7 = g8 at *
        clear HV4 HQ7 k7 f7 HK6 HR6 b8
        have HCM := hide (commit_kp w g8 Q S f v K9 n q qc ops W8 (unhide HE) (unhide HK8) (unhide HOP) (by have := unhide HK9; omega) (by have := unhide HN; omega) (unhide HOB))
        go_upto_region 14 with fail
        rw [← hW8, ← hZ]
        clear hW8 hZ
        go_wp2_with fail
        refine (unhide HCM).mono ?_
        rintro e w9 ⟨x, E, rfl, HC9⟩
        clear HCM HK8
        obtain ⟨g9, f9, hor⟩ := unhide HC9
        have HR9 := hide ((unhide HR8).fr f9)
        have HX9 := hide ((unhide HX8).fr f9)
        clear HR8 HX8 HC9 f9
        rcases hor with ⟨hE0, rfl, k9⟩ | ⟨rfl, hx, okl, S', k9⟩
        · have hE2 : (E == 0) = false := by rw [beq_eq_false_iff_ne]; exact hE0
          have HK9b := hide k9
          clear k9
          have HV1 := hide (version_kp w g9 Q S f v (K9 + 1) n w9 (unhide HK9b))
          go_wp2_with fail
          refine (unhide HV1).mono ?_
          rintro e y1 ⟨rfl, HY1, HFY1⟩
          have HRY1 := hide ((unhide HR9).fr (unhide HFY1))
          clear HV1 HFY1 HR9 HX9 HK9b
          have HV2 := hide (bytes_kp w g9 Q S f v (K9 + 1) n y1 (unhide HY1) (by have := unhide HK9; omega))
          go_wp2_with fail
          refine (unhide HV2).mono ?_
          rintro e y2 ⟨rfl, HY2, HFY2⟩
          have HRY2 := hide ((unhide HRY1).fr (unhide HFY2))
          clear HV2 HFY2 HRY1 HY1
          have HV3 := hide (since_r w g9 Q S f v (K9 + 1) n 0 y2 (unhide HY2) (by have := unhide HN; omega))
          go_wp2_with fail
          refine (unhide HV3).mono ?_
          rintro e y3 ⟨a2, c2, l2, g10, rfl, HY3, HRY3, HFY3, HGY3, hl2⟩
          have HRY4 := hide ((unhide HRY2).fr (unhide HFY3))
          obtain rfl : l1 = l2 := since_same (unhide HG6) (unhide HGY3)
          have HEQ := hide (equal_im a2 a1 c2 c1 l1 y3 (unhide HRY3).ow (unhide HRY4).ow hl1)
          clear HV3 HFY3 HRY2 HRY4 HRY3 HY2 HG6 HGY3
          go_wp2_with fail
          refine (unhide HEQ).mono ?_
          rintro e y4 ⟨rfl, HBx⟩
          have HAK := hide (awake_kp (unhide HE) ((unhide HY3).below (unhide HBx)))
          clear HEQ HY3 HBx
          go_wp2_with fail
          refine (unhide HAK).mono ?_
          rintro e wz ⟨rfl, HBz⟩
          go_wp2_with fail
          go_ret
          exact ⟨rfl, HBz⟩
        · obtain ⟨V1, hV1⟩ : ∃ V1, V1 = v + 1 := ⟨_, rfl⟩
          rw [← hV1] at hx k9
          have hv1 : (v : Int) + 1 = (V1 : Int) := by omega
          have hVb : V1 ≤ 100 := by omega
          subst hx
          obtain ⟨f1, hf1⟩ : ∃ f1, f1 = f.put (wrI ops V1) := ⟨_, rfl⟩
          rw [← hf1] at k9
          have HHIT : Hid (∀ (k : Nat) (o : Op6), ops[k]? = some o → f1 o.k = some ⟨o.k, o.g, o.v, V1⟩) := fun k o hko => by rw [hf1]; exact wr_hit okl hko
          have HMIS : Hid ((∀ o ∈ ops, o.k ≠ key) → f1 key = f key) := fun hm => by rw [hf1]; exact wr_miss hm
          have HOL : Hid (ops.length ≤ 256) := okl.n2
          clear hf1 hV1 okl
          have HK9b := hide k9
          clear k9
          have HV1 := hide (version_kp w g9 Q S' f1 V1 (K9 + 1) (n + ops.length) w9 (unhide HK9b))
          go_wp2_with fail
          refine (unhide HV1).mono ?_
          rintro e y1 ⟨rfl, HY1, HFY1⟩
          have HXY1 := hide ((unhide HX9).fr (unhide HFY1))
          clear HV1 HR9 HX9 HK9b HFY1 HG6
          obtain ⟨n1, hn1⟩ : ∃ n1, n1 = n + ops.length := ⟨_, rfl⟩
          rw [← hn1] at HY1
          clear hn1
          have HW0 : Hid (WrL w y1 Q f1 V1 n1 Z X key ops 0) := ⟨⟨g9, S', K9 + 1, unhide HY1, unhide HXY1⟩, fun j o hj => by omega⟩
          clear HY1 HXY1
          go_wp2_with fail
          go_loopw [106] (fun i wr => ∃ k : Nat, k ≤ ops.length ∧ i = .int .i64 (k : Int) ∧ Hid (WrL w wr Q f1 V1 n1 Z X key ops k)) (fun i _ => ops.length - (intOf i).toNat)
          case atStart => exact ⟨0, Nat.zero_le _, rfl, HW0⟩
          case round =>
            clear HW0
            obtain ⟨k, hk, rfl, HL⟩ := hrel
            by_cases hlt : k < ops.length
            · have hlt' : (k : Int) < (ops.length : Int) := by omega
              obtain ⟨o, ho⟩ : ∃ o, ops[k]? = some o := ⟨_, List.getElem?_eq_getElem hlt⟩
              obtain ⟨⟨g, S9, K8, h1, h2⟩, h3⟩ := unhide HL
              have HL3 := hide h3
              have hbw : Below w.heap.size w wr := h1.lw.below
              obtain ⟨b, off, rfl, hc⟩ := (unhide HOP).mem (by intro e; subst e; simp at ho)
              obtain ⟨c0, c1', c2⟩ := hc k o ho
              have kk : ∀ {q : Addr} {v : Value}, w.cell? q = some v → wr.cell? q = some v := fun {q v} e => by
                rw [hbw.cell (World.block_lt_of_cell? w _ e)]; exact e
              have k0 := kk c0
              have k1 := kk c1'
              have k2 := kk c2
              obtain ⟨W, hW⟩ : ∃ W, W = wr.alloc (.cells #[.string (str o.k), .bool o.g, .string (str o.v)] 55) := ⟨_, rfl⟩
              obtain ⟨Y, hY⟩ : ∃ Y, Y = wr.heap.size := ⟨_, rfl⟩
              have hbW : Below wr.heap.size wr W := by rw [hW]; exact (Below.refl _ _).alloc (Nat.le_refl _) _
              have hrW : W.heap[Y]? = some (.cells #[.string (str o.k), .bool o.g, .string (str o.v)] 55 (0, 0)) := by rw [hY, hW]; exact heap_alloc_new _ _
              have HKW : Hid (KP w W (gO wr g) Q S9 f1 V1 K8 n1) := h1.tag.below hbW
              have HXW : Hid (Bx6 W (gO wr g) Z X) := h2.fr (fr_tag g hbW)
              have HRW : Hid (W.heap[Y]? = some (.cells #[.string (str o.k), .bool o.g, .string (str o.v)] 55 (0, 0)) ∧ gO wr g Y = .o ∧ Y < W.heap.size) := ⟨hrW, gO_ge (by omega), (Array.getElem?_eq_some_iff.1 hrW).1⟩
              generalize gO wr g = g2 at *
              have d0 : W.cell? ⟨Y, 0, none⟩ = some (.string (str o.k)) := cell_of_row _ _ _ _ _ _ hrW
              obtain ⟨sk, sv⟩ := (unhide HOP).sz o (List.mem_of_getElem? ho)
              have HSV := hide sv
              have hgk := get_kp w g2 Q S9 f1 V1 K8 n1 o.k W (unhide HKW) sk
              obtain ⟨gi, gb⟩ := gt_hit (unhide HHIT k o ho)
              rw [gi, gb] at hgk
              have HO := hide ho
              clear kk c0 c1' c2 hc hrW hbW hbw ho h1 h2 h3 gi gb sk sv
              obtain ⟨x9, hx9⟩ : ∃ x9 : Im, (if o.g then zI else (⟨o.k, o.g, o.v, V1⟩ : Im)) = x9 := ⟨_, rfl⟩
              have hx9' : (if (⟨o.k, o.g, o.v, V1⟩ : Im).g then zI else (⟨o.k, o.g, o.v, V1⟩ : Im)) = x9 := hx9
              rw [hx9', show imA x9 = .agg #[.string (str x9.k), .bool x9.g, .string (str x9.v), .int .i64 (x9.t : Int)] from rfl] at hgk
              have hgk' : Calls Tryz.prog 23 #[.pointer (some ⟨Q, 0, none⟩), .string (str o.k)] W fun e w' => e = .returned (.tuple #[.agg #[.string (str x9.k), .bool x9.g, .string (str x9.v), .int .i64 (x9.t : Int)], .bool (!o.g)]) ∧ Hid (∃ g', KP w w' g' Q S9 f1 V1 K8 n1 ∧ Fr W w' g2 g') := hgk
              have HGK := hide hgk'
              have HX9 := hide hx9
              clear hgk hgk' hx9 hx9'
              go_upto_region 22 with fail
              rw [← hW, ← hY]
              clear hW hY k0 k1 k2
              go_wp2_with fail
              refine (unhide HGK).mono ?_
              rintro e u1 ⟨rfl, HU⟩
              obtain ⟨g3, k3, f3⟩ := unhide HU
              have HXU := hide ((unhide HXW).fr f3)
              obtain ⟨U2, hU2⟩ : ∃ U2, U2 = u1.alloc (.cells #[.string (str x9.k), .bool x9.g, .string (str x9.v), .int .i64 (x9.t : Int)] 47) := ⟨_, rfl⟩
              obtain ⟨Y2, hY2⟩ : ∃ Y2, Y2 = u1.heap.size := ⟨_, rfl⟩
              have hb2 : Below u1.heap.size u1 U2 := by rw [hU2]; exact (Below.refl _ _).alloc (Nat.le_refl _) _
              have hr2 : U2.heap[Y2]? = some (.cells #[.string (str x9.k), .bool x9.g, .string (str x9.v), .int .i64 (x9.t : Int)] 47 (0, 0)) := by rw [hY2, hU2]; exact heap_alloc_new _ _
              have hrY : U2.heap[Y]? = some (.cells #[.string (str o.k), .bool o.g, .string (str o.v)] 55 (0, 0)) := by
                obtain ⟨z1, z2, z3⟩ := unhide HRW
                rw [hb2.block Y (Nat.lt_of_lt_of_le z3 f3.size), f3.block Y z3 z2]
                exact z1
              have m0 : U2.cell? ⟨Y, 0, none⟩ = some (.string (str o.k)) := cell_of_row _ _ _ _ _ _ hrY
              have m1 : U2.cell? ⟨Y, 1, none⟩ = some (.bool o.g) := cell_of_row _ _ _ _ _ _ hrY
              have m2 : U2.cell? ⟨Y, 2, none⟩ = some (.string (str o.v)) := cell_of_row _ _ _ _ _ _ hrY
              have p0 : U2.cell? ⟨Y2, 0, none⟩ = some (.string (str x9.k)) := cell_of_row _ _ _ _ _ _ hr2
              have p1 : U2.cell? ⟨Y2, 1, none⟩ = some (.bool x9.g) := cell_of_row _ _ _ _ _ _ hr2
              have p2 : U2.cell? ⟨Y2, 2, none⟩ = some (.string (str x9.v)) := cell_of_row _ _ _ _ _ _ hr2
              have p3 : U2.cell? ⟨Y2, 3, none⟩ = some (.int .i64 (x9.t : Int)) := cell_of_row _ _ _ _ _ _ hr2
              have HKU : Hid (KP w U2 g3 Q S9 f1 V1 K8 n1) := k3.below hb2
              have HXV : Hid (Bx6 U2 g3 Z X) := (unhide HXU).fr ((Fr.refl _ g3).bel hb2)
              clear HGK HU k3 f3 HXU HXW HKW HRW hb2 hr2 hrY d0
              go_upto_region 23 with fail
              rw [← hU2, ← hY2]
              clear hU2 hY2
              have HAK := hide (awake_kp (unhide HE) (unhide HKU))
              have HREL : Hid (o.k ≠ key → WrL w U2 Q f1 V1 n1 Z X key ops (k + 1)) := fun hne => ⟨⟨g3, S9, K8, unhide HKU, unhide HXV⟩, fun j o' hj ho' => by
                by_cases e : j < k
                · exact unhide HL3 j o' e ho'
                · obtain rfl : j = k := by omega
                  have z := unhide HO
                  rw [ho'] at z
                  obtain rfl := Option.some.inj z
                  exact hne⟩
              clear HKU HXV HL3 HO HL
              obtain ⟨bq, hbq⟩ : ∃ bq, ((str o.k).toList == (str key).toList) = bq := ⟨_, rfl⟩
              have HNE : Hid (bq = false → o.k ≠ key) := fun hb e => by
                rw [toList_str, toList_str, e] at hbq
                rw [← hbq] at hb
                simp at hb
              have hg : Tryz.prog.eqGuardType Tryz.prog.depth 47 = false := by kernel_rfl
              have kq := neqM x9
              obtain ⟨ok, og, ov⟩ := o
              simp only at HX9 m0 m1 m2 hbq HNE HREL
              have hx9 := unhide HX9
              clear HX9
              cases og with
              | true =>
                clear kq hx9
                cases bq with
                | true =>
                  go_wp2_with fail
                  refine (unhide HAK).mono ?_
                  rintro e wz ⟨rfl, HBz⟩
                  go_wp2_with fail
                  go_ret
                  exact ⟨rfl, HBz⟩
                | false =>
                  have HR2 := hide (unhide HREL (unhide HNE rfl))
                  clear HREL HNE
                  go_wp2_with fail
                  go_roundw
                  case rel => exact ⟨k + 1, by omega, by go_num, HR2⟩
                  case measure => simp [intOf]; omega
              | false =>
                simp only [Bool.false_eq_true, if_false] at hx9
                subst hx9
                simp only at kq p0 p1 p2 p3
                cases bq with
                | true =>
                  go_wp2_with fail
                  refine (unhide HAK).mono ?_
                  rintro e wz ⟨rfl, HBz⟩
                  go_wp2_with fail
                  go_ret
                  exact ⟨rfl, HBz⟩
                | false =>
                  have HR2 := hide (unhide HREL (unhide HNE rfl))
                  clear HREL HNE
                  go_wp2_with fail
                  go_roundw
                  case rel => exact ⟨k + 1, by omega, by go_num, HR2⟩
                  case measure => simp [intOf]; omega
            · obtain rfl : k = ops.length := by omega
              obtain ⟨⟨g, S9, K8, h1, h2⟩, h3⟩ := unhide HL
              have hmis : f1 key = f key := unhide HMIS (fun o ho => by
                obtain ⟨j, hj⟩ := List.getElem?_of_mem ho
                exact h3 j o (List.getElem?_eq_some_iff.1 hj).1 hj)
              have hgk := get_kp w g Q S9 f1 V1 K8 n1 key wr h1 (unhide HKY)
              obtain ⟨z1, z2⟩ := gt_same hmis
              rw [z1, z2, (unhide HX).1, (unhide HX).2, show imA X = .agg #[.string (str X.k), .bool X.g, .string (str X.v), .int .i64 (X.t : Int)] from rfl] at hgk
              have HGK := hide hgk
              have HXW := hide h2
              clear hgk z1 z2 hmis h1 h2 h3 HL HHIT HMIS
              go_wp2_with fail
              refine (unhide HGK).mono ?_
              rintro e u1 ⟨rfl, HU⟩
              obtain ⟨g3, k3, f3⟩ := unhide HU
              have hXU := (unhide HXW).fr f3
              obtain ⟨U2, hU2⟩ : ∃ U2, U2 = u1.alloc (.cells #[.string (str X.k), .bool X.g, .string (str X.v), .int .i64 (X.t : Int)] 47) := ⟨_, rfl⟩
              obtain ⟨Y2, hY2⟩ : ∃ Y2, Y2 = u1.heap.size := ⟨_, rfl⟩
              have hb2 : Below u1.heap.size u1 U2 := by rw [hU2]; exact (Below.refl _ _).alloc (Nat.le_refl _) _
              have hr2 : U2.heap[Y2]? = some (.cells #[.string (str X.k), .bool X.g, .string (str X.v), .int .i64 (X.t : Int)] 47 (0, 0)) := by rw [hY2, hU2]; exact heap_alloc_new _ _
              have hrZ := (hXU.fr ((Fr.refl _ g3).bel hb2)).row
              have m0 : U2.cell? ⟨Z, 0, none⟩ = some (.string (str X.k)) := cell_of_row _ _ _ _ _ _ hrZ
              have m1 : U2.cell? ⟨Z, 1, none⟩ = some (.bool X.g) := cell_of_row _ _ _ _ _ _ hrZ
              have m2 : U2.cell? ⟨Z, 2, none⟩ = some (.string (str X.v)) := cell_of_row _ _ _ _ _ _ hrZ
              have m3 : U2.cell? ⟨Z, 3, none⟩ = some (.int .i64 (X.t : Int)) := cell_of_row _ _ _ _ _ _ hrZ
              have p0 : U2.cell? ⟨Y2, 0, none⟩ = some (.string (str X.k)) := cell_of_row _ _ _ _ _ _ hr2
              have p1 : U2.cell? ⟨Y2, 1, none⟩ = some (.bool X.g) := cell_of_row _ _ _ _ _ _ hr2
              have p2 : U2.cell? ⟨Y2, 2, none⟩ = some (.string (str X.v)) := cell_of_row _ _ _ _ _ _ hr2
              have p3 : U2.cell? ⟨Y2, 3, none⟩ = some (.int .i64 (X.t : Int)) := cell_of_row _ _ _ _ _ _ hr2
              have HAK := hide (awake_kp (unhide HE) (k3.below hb2))
              clear HGK HU k3 f3 HXW hXU hb2 hr2 hrZ
              go_upto_region 29 with fail
              rw [← hU2, ← hY2]
              clear hU2 hY2
              have hg : Tryz.prog.eqGuardType Tryz.prog.depth 47 = false := by kernel_rfl
              have kq := eqM X
              go_wp2_with fail
              refine (unhide HAK).mono ?_
              rintro e wz ⟨rfl, HBz⟩
              go_wp2_with fail
              go_ret
              exact ⟨rfl, HBz⟩
#print axioms writes6
theorem kvstoreWrites_walk (p : Option Addr) (c : Nat) (l : List D6) (q : Option Addr) (qc : Nat) (ops : List Op6) (key : Nm) (w : World) (h : DR6 w p l) (hl : l.length * 64 ≤ 140737488351232) (ho : OpR6 w q ops) (hkey : key.length ≤ maxLen) (hE : EnvS w) :
    Calls Tryz.prog 5 #[.slice p l.length c, .slice q ops.length qc, .string (str key)] w fun e w' => e = .returned (.bool true) ∧ Below w.heap.size w w' :=
  (writes6 w p c l q qc ops key h hl ho hkey hE).mono fun e w' q => ⟨q.1, q.2⟩
end Go.Proofs.YtmcgghjeocnpnaaGreatDoor
end
