/-
  slices.Equal and slices.Concat of items; a commit of a statement's loop.; kvstore's statements: KvstorePieces.
-/
import Derived.Test.YtmcgghjeocnpnaaGreatDoorPkKewsbk
import Derived.Test.YtmcgghjeocnpnaaGreatDoorPkKewsbj
import Derived.Lib.AppendZeros
import Derived.Laws.AppendOwnNone
import Derived.Laws.StructEq
section
set_option linter.unusedVariables false
set_option maxRecDepth 1000000
namespace Go.Proofs.YtmcgghjeocnpnaaGreatDoor
open Go.RowKit Go.Maps

theorem bdr6 {B : Nat} {w0 w : World} (h : Below B w0 w) : ∀ n : Nat, Below B w0 (w.drewN n)
  | 0 => h
  | n + 1 => ⟨(bdr6 h n).os, (bdr6 h n).tape, (bdr6 h n).output, (bdr6 h n).size, (bdr6 h n).block⟩
theorem neqM (x : Im) (w : World) : (binOp .neq 47 (.agg #[.string (str x.k), .bool x.g, .string (str x.v), .int .i64 (x.t : Int)]) (.agg #[.string (str x.k), .bool x.g, .string (str x.v), .int .i64 (x.t : Int)])).run Tryz.prog w = .ok (.bool false) w := by
  have hS : Tryz.prog.underlying 47 = some (.struct (Tryz.prog.fieldsOf 47)) := by kernel_rfl
  have hp : Tryz.prog.stoodInHeld 47 = false := by kernel_rfl
  rw [run_neq_struct, show (10000 : Nat) = 9999 + 1 from rfl, run_equalIn_agg w 9999 47 _ _ hS hp]
  simp only [Program.fieldsOf, Tryz.underlying47]
  have u9 := Tryz.underlying9
  have u4 := Tryz.underlying4
  have u3 := Tryz.underlying3
  have t1 : (str x.k).toList = x.k := toList_str x.k
  have t2 : (str x.v).toList = x.v := toList_str x.v
  go_simp
set_option maxHeartbeats 4000000 in
theorem equal_im (p q : Option Addr) (cp cq : Nat) (l : List Im) (w : World) (hp : OwnM w p cp l) (hq : OwnM w q cq l) (hl : l.length ≤ 1000000) :
    Calls Tryz.prog 20 #[.slice p l.length cp, .slice q l.length cq] w fun e w' => e = .returned (.bool true) ∧ Hid (Below w.heap.size w w') := by
  have HP := hide hp
  have HQ := hide hq
  clear hp hq
  go_enter Tryz.func20, Tryz.ntmps20
  go_wp2
  go_loopw [13] (fun v wr => ∃ k : Nat, k ≤ l.length ∧ v = .int .i64 (k : Int) ∧ Hid (Below w.heap.size w wr)) (fun v _ => l.length - (intOf v).toNat)
  case atStart => exact ⟨0, Nat.zero_le _, rfl, Below.refl _ _⟩
  case round =>
    obtain ⟨k, hk, rfl, HB⟩ := hrel
    by_cases hlt : k < l.length
    · have hlt2 : (k : Int) < (l.length : Int) := by omega
      obtain ⟨x, hx⟩ : ∃ x, l[k]? = some x := ⟨_, List.getElem?_eq_getElem hlt⟩
      obtain ⟨b1, rfl, c0, c1, c2, c3, _⟩ := ((unhide HP).below (unhide HB)).at hx
      obtain ⟨b2, rfl, d0, d1, d2, d3, _⟩ := ((unhide HQ).below (unhide HB)).at hx
      have hg : Tryz.prog.eqGuardType Tryz.prog.depth 47 = false := by kernel_rfl
      have kq := neqM x
      obtain ⟨xk, xg, xv, xt⟩ := x
      simp only at c0 c1 c2 c3 d0 d1 d2 d3 kq
      clear hx
      go_upto_region 6 with fail
      go_quiet (fail)
      go_wp2
      have HB2 := hide (bdr6 (unhide HB) nq)
      go_roundw
      case rel => exact ⟨k + 1, by omega, by go_num, HB2⟩
      case measure => simp [intOf]; omega
    · obtain rfl : k = l.length := by omega
      go_wp2
      go_ret
      exact ⟨rfl, HB⟩
#print axioms equal_im
/-- A row of items whose block is not older than base. -/
def OwnN6 (w : World) (base : Nat) (a : Option Addr) (cap : Nat) (l : List Im) : Prop := w.ownsRow base 47 4 (.slice a l.length cap) l.length (ims l)
theorem OwnN6.m {w : World} {base : Nat} {a : Option Addr} {cap : Nat} {l : List Im} (h : OwnN6 w base a cap l) : OwnM w a cap l := by
  refine ⟨h.1, ?_⟩
  rcases h.2 with hn | ⟨b, c, cur, hv, hbb, rest⟩
  · exact .inl hn
  · exact .inr ⟨b, c, cur, hv, Nat.zero_le _, rest⟩
theorem OwnN6.ge {w : World} {base : Nat} {a : Option Addr} {cap : Nat} {l : List Im} (h : OwnN6 w base a cap l) : ∀ k, blk a = some k → base ≤ k := by
  intro k hk
  rcases h.2 with ⟨hv, _⟩ | ⟨b, c, cur, hv, hbb, rest⟩
  · simp only [Value.slice.injEq] at hv
    rw [hv.1] at hk
    simp [blk] at hk
  · simp only [Value.slice.injEq] at hv
    rw [hv.1] at hk
    simp [blk] at hk
    omega
theorem wp_appN (w : World) {ops : Array Oper} {rest : List Oper} {o : Oper} {a : Act} {Q : Exit → Act → World → Prop} (hgd : o.guard = none) (s x : Operand)
    (ho : o.op = .call { callee := .builtin .append, args := #[s, x], argTypes := #[39, 39] })
    (base : Nat) (a1 : Option Addr) (cap1 : Nat) (l1 : List Im) (hs : a.eval s = .slice a1 l1.length cap1) (hown : OwnN6 w base a1 cap1 l1)
    (a2 : Option Addr) (cap2 : Nat) (l2 : List Im) (n2 : Nat) (hx : a.eval x = .slice a2 n2 cap2) (hn2 : n2 = l2.length) (hsrc : OwnM w a2 cap2 l2)
    (hlen : l1.length + l2.length ≤ 10000000) (hbase : base ≤ w.heap.size)
    (h : ∀ a' cap' r w', Hid (r = l1 ++ l2) → OwnN6 w' base a' cap' r → w.grownBy w' (blk a1) → wpList Tryz.prog ops Q rest (a.put o.dst (.slice a' r.length cap')) w') : wpList Tryz.prog ops Q (o :: rest) a w := by
  subst hn2
  obtain ⟨i, hi, hz0, hz1, hz2⟩ := info_parts Tryz.infoM6
  have hblk : (Value.slice a1 l1.length cap1).ownBlock = blk a1 := by cases a1 <;> rfl
  rcases hsrc.cases with ⟨rfl, rfl, rfl⟩ | ⟨g, cur, rfl, hg, hle, hm, hsz, ht⟩
  · refine wpList_append_own_none hgd s x 39 ho base 47 i 4 Tryz.underlying39 hi _ _ _ hs hown hx ?_
    exact h a1 cap1 l1 w (by show _ = _; simp) hown (World.grownBy.refl _ _)
  · refine wpList_append_own w hgd s x 39 ho base 47 i _ 4 48 Tryz.underlying39 hi hz0 hz1 hz2 rfl (by decide) _ _ _ hs hown ⟨g, 0, none⟩ l2.length cap2 (ims l2) hx (ims_length l2) ?_ (ims_one l2) (by unfold maxLen; omega) (by omega) hbase ?_
    · intro j u hu
      have hj : j < l2.length * 4 := by have := (List.getElem?_eq_some_iff.1 hu).1; rw [ims_length] at this; exact this
      rw [addr_add, Nat.zero_add, cell_of_row w g j cur _ (0, 0) hg]
      rw [← ht, List.getElem?_take, if_pos hj] at hu
      simpa using hu
    · intro v' w' h1 h2 _
      have e1 : l1.length + l2.length = (l1 ++ l2).length := by simp
      rw [e1, ← ims_append] at h1
      have hv : ∃ a' cap', v' = .slice a' (l1 ++ l2).length cap' := by
        rcases h1.2 with ⟨hv, hn⟩ | ⟨g, cap, cur, hv, _⟩
        · exact ⟨none, 0, by rw [hv, hn]⟩
        · exact ⟨_, _, hv⟩
      obtain ⟨a', cap', rfl⟩ := hv
      rw [hblk] at h2
      exact h a' cap' (l1 ++ l2) w' rfl h1 h2
theorem OwnN6.nil (w : World) (base : Nat) : OwnN6 w base none 0 [] := World.ownsRow_nil w base _ _
set_option maxHeartbeats 1000000 in
theorem grow_im (n : Nat) (w : World) (hn : n ≤ 10000000) :
    Calls Tryz.prog 52 #[.slice none 0 0, .int .i64 (n : Int)] w fun e w' => ∃ a' cap', e = .returned (.slice a' 0 cap') ∧ Hid (OwnN6 w' w.heap.size a' cap' []) ∧ Hid (Below w.heap.size w w') := by
  by_cases h0 : n = 0
  · subst h0
    have HO : Hid (OwnN6 w w.heap.size none 0 []) := OwnN6.nil _ _
    go_enter Tryz.func52, Tryz.ntmps52
    go_wp2
    go_ret
    exact ⟨none, 0, rfl, HO, Below.refl _ _⟩
  · obtain ⟨i, hi, hz0, hz1, hz2⟩ := info_parts Tryz.infoM6
    have hge := grownCap_ge w n 0 47
    have hle := grownCap_le_maxLen w n 0 47 (by unfold maxLen; omega)
    obtain ⟨z, hz⟩ : ∃ z, z = Value.agg #[.string ByteArray.empty, .bool false, .string ByteArray.empty, .int .i64 0] := ⟨_, rfl⟩
    rw [← hz] at hz0
    have hzs : z.cells.size = 4 := by rw [hz]; rfl
    clear hz
    have hrun : ∀ ty, (Builtin.append_ #[39, 3] ty #[.slice none 0 0, .int .i64 (n : Int)]).run Tryz.prog w = _ := fun ty => Lib.run_append_nil_zeros w 39 3 ty 47 i z .i64 .i64 Tryz.underlying39 Tryz.underlying3 hi hz0 n (by omega) (by rw [hz1]; decide) (by omega) (by rw [hz2]; omega)
    generalize grownCap w n 0 47 = c at *
    have ho : Hid (OwnN6 (w.drew.alloc (.cells (Builtin.zeroCells z.cells n ++ Builtin.zeroCells z.cells (c - n)) 47)) w.heap.size (some ⟨w.heap.size, 0, none⟩) c []) := by
      refine World.ownsRow_made w.drew _ c (Nat.le_refl _) hle ?_
      simp only [Array.size_append, size_zeroCells]
      rw [hzs]
      omega
    have hb : Hid (Below w.heap.size w (w.drew.alloc (.cells (Builtin.zeroCells z.cells n ++ Builtin.zeroCells z.cells (c - n)) 47))) := (Below.refl _ _).drew.alloc (Nat.le_refl _) _
    generalize w.drew.alloc (.cells (Builtin.zeroCells z.cells n ++ Builtin.zeroCells z.cells (c - n)) 47) = w1 at *
    have hrun2 := hide hrun
    have h1 : (0 : Int) < (n : Int) := by omega
    clear hrun hz0 hzs hi hz1 hz2
    go_enter Tryz.func52, Tryz.ntmps52
    go_wp2_with (at_builtin; refine Lib.wpList_append_run _ rfl _ _ _ _ rfl _ _ rfl rfl _ _ (unhide hrun2 _) ?_)
    go_wp2
    go_ret
    exact ⟨_, c, rfl, ho, hb⟩
#print axioms grow_im
set_option maxHeartbeats 2000000 in
/-- slices.Concat of two. -/
theorem concat_im (V : Nat) (a1 : Option Addr) (cap1 : Nat) (l1 : List Im) (a2 : Option Addr) (cap2 : Nat) (l2 : List Im) (w : World) (h1 : OwnM w a1 cap1 l1) (h2 : OwnM w a2 cap2 l2)
    (v1 : w.cell? ⟨V, 0, none⟩ = some (.slice a1 l1.length cap1)) (v2 : w.cell? ⟨V, 1, none⟩ = some (.slice a2 l2.length cap2)) (hl1 : l1.length ≤ 1000000) (hl2 : l2.length ≤ 1000000) :
    Calls Tryz.prog 24 #[.slice (some ⟨V, 0, none⟩) 2 2] w fun e w' => ∃ a' cap' r, e = .returned (.slice a' r.length cap') ∧ Hid (r = l1 ++ l2) ∧ Hid (OwnN6 w' w.heap.size a' cap' r) ∧ Hid (Below w.heap.size w w') := by
  have hV : V < w.heap.size := World.block_lt_of_cell? w _ v1
  obtain ⟨N, hN⟩ : ∃ N : Nat, N = l1.length + l2.length := ⟨_, rfl⟩
  have hN1 : (l1.length : Int) + (l2.length : Int) = (N : Int) := by omega
  have hN2 : N ≤ 2000000 := by omega
  have H1 := hide h1
  have H2 := hide h2
  have V1 := hide v1
  have V2 := hide v2
  clear hN h1 h2
  go_enter Tryz.func24, Tryz.ntmps24
  go_wp2
  refine wp_loop_rounds 3 ?_
  rw [rounds_succ]
  go_wp2
  rw [rounds_succ]
  go_wp2
  rw [rounds_succ]
  go_wp2_with fail
  refine (grow_im N w (by omega)).mono ?_
  rintro e w1 ⟨a3, cap3, rfl, HO3, HB3⟩
  have v1' : w1.cell? ⟨V, 0, none⟩ = some (.slice a1 l1.length cap1) := by rw [(unhide HB3).cell hV]; exact v1
  have h1' := (unhide H1).below (unhide HB3)
  clear v1 v2
  go_wp2
  refine wp_loop_rounds 3 ?_
  rw [rounds_succ]
  go_wp2_with (at_builtin; refine wp_appN _ rfl _ _ rfl w.heap.size a3 cap3 [] rfl (unhide HO3) a1 cap1 l1 _ rfl rfl h1' ?c1 (unhide HB3).size ?_)
  case c1 => simp; omega
  intro a4 cap4 r4 w4 hr4 ho4 hg4
  have hb4 : Below w.heap.size w w4 := below_grown (unhide HB3) hg4 (Nat.le_refl _) (unhide HO3).ge
  have v2' : w4.cell? ⟨V, 1, none⟩ = some (.slice a2 l2.length cap2) := by rw [hb4.cell hV]; exact unhide V2
  have h2' := (unhide H2).below hb4
  have hrl : r4.length ≤ 1000000 := by rw [hr4.out]; simpa using hl1
  have HR4 : Hid (r4 = l1) := by show _ = _; have := hr4.out; simpa using this
  have HO4 := hide ho4
  have HB4 := hide hb4
  clear hg4 v1' h1' hr4 ho4 hb4
  go_wp2
  rw [rounds_succ]
  go_wp2_with (at_builtin; refine wp_appN _ rfl _ _ rfl w.heap.size a4 cap4 r4 rfl (unhide HO4) a2 cap2 l2 _ rfl rfl h2' ?c2 (unhide HB4).size ?_)
  case c2 => omega
  intro a5 cap5 r5 w5 hr5 ho5 hg5
  have HB5 : Hid (Below w.heap.size w w5) := below_grown (unhide HB4) hg5 (Nat.le_refl _) (unhide HO4).ge
  have HR : Hid (r5 = l1 ++ l2) := by show _ = _; rw [hr5.out, unhide HR4]
  have HO5 := hide ho5
  clear hg5 hr5 ho5 v2' h2'
  go_wp2
  rw [rounds_succ]
  go_wp2
  go_ret
  exact ⟨a5, cap5, r5, rfl, HR, HO5, HB5⟩
#print axioms concat_im
theorem sumN_take {l : List D6} {k : Nat} {d : D6} (h : l[k]? = some d) : sumN (l.take (k + 1)) = sumN (l.take k) + d.l.length := by
  unfold sumN
  rw [List.take_add_one, h]
  simp
theorem sumN_takeLe (l : List D6) (k : Nat) : sumN (l.take k) ≤ sumN l := by
  have e : sumN l = sumN (l.take k) + sumN (l.drop k) := by
    unfold sumN
    rw [← List.sum_append, ← List.map_append, List.take_append_drop]
  omega
/-- A store behind the first k commits of l. -/
def LpS (w0 w : World) (Q : Nat) (l : List D6) (k : Nat) : Prop := ∃ g S f v n, KP w0 w g Q S f v k n ∧ n ≤ sumN (l.take k)
theorem LpS.start {w0 w : World} {Q : Nat} {z : Int} (l : List D6) (h : KS0 w0 w Q z) : LpS w0 w Q l 0 := by
  obtain ⟨g, h1⟩ := KP.new h
  exact ⟨g, _, _, _, _, h1, Nat.zero_le _⟩
theorem commitL (w0 w W : World) (Q : Nat) (l : List D6) (k : Nat) (d : D6) (x : Option Addr) (c : Nat) (hE : EnvS w0) (h : LpS w0 w Q l k) (hs : l.length ≤ 60 ∧ sumN l ≤ 2000 ∧ sumB l ≤ 262144) (hd : l[k]? = some d) (hb : Below w.heap.size w W) (hp : OpR6 w0 x d.l) :
    Calls Tryz.prog 14 #[.pointer (some ⟨Q, 0, none⟩), .slice x d.l.length c] W fun e w' => ∃ x E, e = .returned (.tuple #[.int .i64 x, .int .i64 E]) ∧ Hid (LpS w0 w' Q l (k + 1)) := by
  obtain ⟨g, S, f, v, n, h1, h2⟩ := h
  obtain ⟨s1, s2, s3⟩ := hs
  have hk := (List.getElem?_eq_some_iff.1 hd).1
  have h3 := sumN_takeLe l k
  have h4 := (sumN_mem (List.mem_of_getElem? hd)).2
  have h5 := sumN_take hd
  refine (commit_kp w0 g Q S f v k n x c d.l W hE (h1.below hb) hp (by omega) (by omega) (by omega)).mono ?_
  rintro e w' ⟨x, E, rfl, g', _, ⟨_, _, k1⟩ | ⟨_, _, _, S', k1⟩⟩
  · exact ⟨x, E, rfl, g', _, _, _, _, k1, by omega⟩
  · exact ⟨x, E, rfl, g', _, _, _, _, k1, by omega⟩
#print axioms commitL
end Go.Proofs.YtmcgghjeocnpnaaGreatDoor
end
section
set_option linter.unusedVariables false
set_option maxRecDepth 1000000
namespace Go.Proofs.YtmcgghjeocnpnaaGreatDoor
open Go.RowKit Go.Maps Go.MuLone

theorem lt_le6 {a b c : Nm} (h : a < b) (h2 : ¬ c < b) : a < c := by
  rcases List.le_iff_lt_or_eq.1 (List.not_lt.1 h2) with e | e
  · exact List.lt_trans h e
  · rw [← e]; exact h
theorem gth_iff {f : Its} {p : Im → Bool} {l : List Im} (h : Gth f p (fun _ => false) l) (x : Im) : x ∈ l ↔ f x.k = some x ∧ p x = true :=
  ⟨fun hx => ⟨(h.mem x hx).1, (h.mem x hx).2.1⟩, fun hx => h.all x.k x hx.1 hx.2 rfl⟩
/-- Two stretches, one behind the other. -/
theorem scan_cat {f : Its} {p q r : Im → Bool} {l1 l2 l3 : List Im} (b : Nm) (h1 : Gth f p (fun _ => false) l1) (r1 : Rise l1) (h2 : Gth f q (fun _ => false) l2) (r2 : Rise l2) (h3 : Gth f r (fun _ => false) l3) (r3 : Rise l3)
    (hp : ∀ x, p x = true → x.k < b) (hq : ∀ x, q x = true → ¬ x.k < b) (hr : ∀ x, r x = true ↔ p x = true ∨ q x = true) : l1 ++ l2 = l3 := by
  refine rise_one (List.pairwise_append.2 ⟨r1, r2, fun x hx y hy => ?_⟩) r3 (fun x => ?_)
  · have a := hp x ((gth_iff h1 x).1 hx).2
    have c := hq y ((gth_iff h2 y).1 hy).2
    rw [bl_eq, decide_eq_true_eq]
    exact lt_le6 a c
  · rw [List.mem_append, gth_iff h1, gth_iff h2, gth_iff h3, hr]
    constructor
    · rintro (⟨a, b⟩ | ⟨a, b⟩)
      · exact ⟨a, .inl b⟩
      · exact ⟨a, .inr b⟩
    · rintro ⟨a, b | b⟩
      · exact .inl ⟨a, b⟩
      · exact .inr ⟨a, b⟩
theorem scP_iff (a b : Nm) (x : Im) : scP a b x = true ↔ x.g = false ∧ ¬ x.k < a ∧ (b = [] ∨ x.k < b) := by
  unfold scP
  rw [bl_eq, bl_eq, toList_str]
  cases x.g <;> simp
theorem scan_cat1 {f : Its} {a b c : Nm} {l1 l2 l3 : List Im} (h1 : Gth f (fun x => scP a b x) (fun _ => false) l1) (r1 : Rise l1) (h2 : Gth f (fun x => scP b c x) (fun _ => false) l2) (r2 : Rise l2) (h3 : Gth f (fun x => scP a c x) (fun _ => false) l3) (r3 : Rise l3)
    (hab : ¬ b < a) (hb : b ≠ []) (hbc : c = [] ∨ ¬ c < b) : l1 ++ l2 = l3 := by
  refine scan_cat b h1 r1 h2 r2 h3 r3 (fun x hx => ?_) (fun x hx => ((scP_iff _ _ x).1 hx).2.1) (fun x => ?_)
  · rcases ((scP_iff _ _ x).1 hx).2.2 with e | e
    · exact absurd e hb
    · exact e
  · simp only [scP_iff]
    constructor
    · rintro ⟨g, u, v⟩
      by_cases hk : x.k < b
      · exact .inl ⟨g, u, .inr hk⟩
      · exact .inr ⟨g, hk, v⟩
    · rintro (⟨g, u, v⟩ | ⟨g, u, v⟩)
      · refine ⟨g, u, ?_⟩
        rcases v with e | e
        · exact absurd e hb
        · rcases hbc with e' | e'
          · exact .inl e'
          · exact .inr (lt_le6 e e')
      · refine ⟨g, fun hk => u (lt_le6 hk hab), v⟩
theorem nil_le (a : Nm) : ¬ a < ([] : Nm) := fun h => by cases h
theorem gtr_no {a b : Nm} {x y : Bool} (hx : Op.bytesLess (str a).toList (str b).toList = x) (hy : ((str a).toList == (str b).toList) = y) (h : (!x && !y) = false) : ¬ b < a := by
  intro hlt
  have e1 : bl a b = x := hx
  rw [bl_eq] at e1
  rw [toList_str, toList_str] at hy
  have n1 : ¬ a < b := fun h' => List.lt_irrefl a (List.lt_trans h' hlt)
  have n2 : a ≠ b := fun h' => List.lt_irrefl a (by rw [h'] at hlt ⊢; exact hlt)
  rw [decide_eq_false n1] at e1
  have e2 : y = false := by rw [← hy, beq_eq_false_iff_ne]; exact n2
  rw [← e1, e2] at h
  cases h
/-- A row of items that belongs to no store. -/
structure R6 (w : World) (g : Nat → Tg) (a : Option Addr) (c : Nat) (l : List Im) : Prop where
  ow : OwnM w a c l
  tg : ∀ j, blk a = some j → g j = .o
theorem R6.fr {w w' : World} {g g' : Nat → Tg} {a : Option Addr} {c : Nat} {l : List Im} (h : R6 w g a c l) (x : Fr w w' g g') : R6 w' g' a c l :=
  ⟨h.ow.same (fun k hk => x.block k (h.ow.lt k hk) (.inl (h.tg k hk))), fun k hk => (x.ag k (h.ow.lt k hk)).trans (h.tg k hk)⟩
theorem fr_tag {w w' : World} (g : Nat → Tg) (h : Below w.heap.size w w') : Fr w w' g (gO w g) := ⟨h.size, fun k hk => gO_lt hk, fun k hk _ => h.block k hk⟩
/-- What Scan leaves. -/
theorem scan_r (w0 : World) (g : Nat → Tg) (Q : Nat) (S : List Sg) (f : Its) (v k n : Nat) (pf pt : Nm) (w : World) (h : KP w0 w g Q S f v k n) (hn : n ≤ 1000000) :
    Calls Tryz.prog 21 #[.pointer (some ⟨Q, 0, none⟩), .string (str pf), .string (str pt)] w fun e w' => ∃ a c l g', e = .returned (.slice a l.length c) ∧ Hid (KP w0 w' g' Q S f v k n) ∧ Hid (R6 w' g' a c l) ∧ Hid (Fr w w' g g') ∧ Hid (Gth f (fun x => scP pf pt x) (fun _ => false) l ∧ Rise l) ∧ l.length ≤ 1000000 := by
  refine (scan_kp w0 g Q S f v k n pf pt w h hn).mono ?_
  rintro e w' ⟨a, c, l, rfl, g', q1, q2, q3, q4, q5, q6, q7⟩
  exact ⟨a, c, l, g', rfl, q2, ⟨q3, q4⟩, q1, ⟨q5, q6⟩, by omega⟩
theorem since_r (w0 : World) (g : Nat → Tg) (Q : Nat) (S : List Sg) (f : Its) (v k n : Nat) (z : Int) (w : World) (h : KP w0 w g Q S f v k n) (hn : n ≤ 1000000) :
    Calls Tryz.prog 15 #[.pointer (some ⟨Q, 0, none⟩), .int .i64 z] w fun e w' => ∃ a c l g', e = .returned (.slice a l.length c) ∧ Hid (KP w0 w' g' Q S f v k n) ∧ Hid (R6 w' g' a c l) ∧ Hid (Fr w w' g g') ∧ Hid (Gth f (fun x => decide (z < (x.t : Int))) (fun _ => false) l ∧ Rise l) ∧ l.length ≤ 1000000 := by
  refine (since_kp w0 g Q S f v k n z w h hn).mono ?_
  rintro e w' ⟨a, c, l, rfl, g', q1, q2, q3, q4, q5, q6, q7⟩
  exact ⟨a, c, l, g', rfl, q2, ⟨q3, q4⟩, q1, ⟨q5, q6⟩, by omega⟩
/-- slices.Concat of two rows, beside a store. -/
theorem concat_r (w0 : World) (g : Nat → Tg) (Q : Nat) (S : List Sg) (f : Its) (v k n : Nat) (a1 : Option Addr) (c1 : Nat) (l1 : List Im) (a2 : Option Addr) (c2 : Nat) (l2 : List Im) (w : World) (h : KP w0 w g Q S f v k n) (h1 : R6 w g a1 c1 l1) (h2 : R6 w g a2 c2 l2) (hl1 : l1.length ≤ 1000000) (hl2 : l2.length ≤ 1000000) (W : World) (hW : W = w.alloc (.cells #[.slice a1 l1.length c1, .slice a2 l2.length c2] 39)) :
    Calls Tryz.prog 24 #[.slice (some ⟨w.heap.size, 0, none⟩) 2 2] W fun e w' => ∃ a c l g', e = .returned (.slice a l.length c) ∧ Hid (l = l1 ++ l2) ∧ Hid (KP w0 w' g' Q S f v k n) ∧ Hid (R6 w' g' a c l) ∧ Hid (Fr w w' g g') := by
  have hb : Below w.heap.size w W := by rw [hW]; exact (Below.refl _ _).alloc (Nat.le_refl _) _
  have hr : W.heap[w.heap.size]? = some (.cells #[.slice a1 l1.length c1, .slice a2 l2.length c2] 39 (0, 0)) := by rw [hW]; exact heap_alloc_new _ _
  refine (concat_im w.heap.size a1 c1 l1 a2 c2 l2 W (h1.ow.below hb) (h2.ow.below hb) (cell_of_row _ _ _ _ _ _ hr) (cell_of_row _ _ _ _ _ _ hr) hl1 hl2).mono ?_
  rintro e w' ⟨a, c, l, rfl, q1, q2, q3⟩
  have b3 : Below w.heap.size w w' := hb.trans ((unhide q3).mono hb.size)
  exact ⟨a, c, l, gO w g, rfl, q1, h.tag.below b3, ⟨(unhide q2).m, fun j hj => gO_ge (Nat.le_trans hb.size ((unhide q2).ge j hj))⟩, fr_tag g b3⟩
/-- awake, of a world beside a store. -/
theorem awake_kp {w0 w : World} {g : Nat → Tg} {Q : Nat} {S : List Sg} {f : Its} {v k n : Nat} (hE : EnvS w0) (h : KP w0 w g Q S f v k n) : Calls Tryz.prog 10 #[] w fun e w' => e = .returned (.bool true) ∧ Hid (Below w0.heap.size w0 w') := awake6 w0 g w hE h.lw
set_option maxHeartbeats 8000000 in
theorem pieces6 (w : World) (p : Option Addr) (c : Nat) (l : List D6) (A B C : Nm) (h : DR6 w p l) (hE : EnvS w) :
    Calls Tryz.prog 6 #[.slice p l.length c, .string (str A), .string (str B), .string (str C)] w fun e w' => e = .returned (.bool true) ∧ Hid (Below w.heap.size w w') := by
  have HSH := hide (short6 p c l w h)
  have HAW : Hid (∀ u, Below w.heap.size w u → Calls Tryz.prog 10 #[] u fun e w' => e = .returned (.bool true) ∧ Hid (Below w.heap.size w w')) := fun u hu => awake6 w (fun _ => .o) u hE ⟨hu, fun _ _ => rfl⟩
  have HBG : Hid (∀ u, Below w.heap.size w u → Calls Tryz.prog 11 #[.int .i64 16777216] u fun e w' => ∃ D Q, e = .returned (.tuple #[.pointer (some ⟨D, 0, none⟩), .pointer (some ⟨Q, 0, none⟩), .bool true]) ∧ Hid (KS0 w w' Q 16777216)) := fun u hu => begun6 w (fun _ => .o) 16777216 u hE ⟨hu, fun _ _ => rfl⟩ (by omega) (by omega)
  have HE := hide hE
  have HH := hide h
  have hle := h.le
  unfold maxLen at hle
  clear h hE
  generalize hsl : shr6 l = sl at *
  have HSL := hide hsl
  clear hsl
  go_enter Tryz.func6, Tryz.ntmps6
  go_wp2_with fail
  refine (unhide HSH).mono ?_
  rintro e w1 ⟨rfl, HB1⟩
  clear HSH
  have HAA := hide (unhide HAW w1 (unhide HB1))
  cases sl with
  | false =>
    go_wp2_with fail
    refine (unhide HAA).mono ?_
    rintro e w2 ⟨rfl, HB2⟩
    go_wp2_with fail
    go_ret
    exact ⟨rfl, HB2⟩
  | true =>
    obtain ⟨x1, hx1⟩ : ∃ x, Op.bytesLess (str A).toList (str B).toList = x := ⟨_, rfl⟩
    obtain ⟨y1, hy1⟩ : ∃ y, ((str A).toList == (str B).toList) = y := ⟨_, rfl⟩
    obtain ⟨x2, hx2⟩ : ∃ x, Op.bytesLess (str B).toList (str C).toList = x := ⟨_, rfl⟩
    obtain ⟨y2, hy2⟩ : ∃ y, ((str B).toList == (str C).toList) = y := ⟨_, rfl⟩
    cases hab : (!x1 && !y1) with
    | true =>
      go_wp2_with fail
      refine (unhide HAA).mono ?_
      rintro e w2 ⟨rfl, HB2⟩
      go_wp2_with fail
      go_ret
      exact ⟨rfl, HB2⟩
    | false =>
      cases hbc : (!x2 && !y2) with
      | true =>
        go_wp2_with fail
        refine (unhide HAA).mono ?_
        rintro e w2 ⟨rfl, HB2⟩
        go_wp2_with fail
        go_ret
        exact ⟨rfl, HB2⟩
      | false =>
        cases hb0 : (str B).toList.isEmpty with
        | true =>
          go_wp2_with fail
          refine (unhide HAA).mono ?_
          rintro e w2 ⟨rfl, HB2⟩
          go_wp2_with fail
          go_ret
          exact ⟨rfl, HB2⟩
        | false =>
          cases hc0 : (str C).toList.isEmpty with
          | true =>
            go_wp2_with fail
            refine (unhide HAA).mono ?_
            rintro e w2 ⟨rfl, HB2⟩
            go_wp2_with fail
            go_ret
            exact ⟨rfl, HB2⟩
          | false =>
            have HLE : Hid ((¬ B < A) ∧ (¬ C < B) ∧ B ≠ [] ∧ C ≠ []) := ⟨gtr_no hx1 hy1 hab, gtr_no hx2 hy2 hbc, (fun e => by rw [e, toList_str] at hb0; simp at hb0), (fun e => by rw [e, toList_str] at hc0; simp at hc0)⟩
            have HBB := hide (unhide HBG w1 (unhide HB1))
            go_wp2_with fail
            refine (unhide HBB).mono ?_
            rintro e w2 ⟨D, Q, rfl, HK0⟩
            have HL0 : Hid (LpS w w2 Q l 0) := LpS.start l (unhide HK0)
            clear HBB HK0 HBG HAW HAA
            go_wp2_with fail
            go_loopw [46] (fun i wr => ∃ k : Nat, k ≤ l.length ∧ i = .int .i64 (k : Int) ∧ Hid (LpS w wr Q l k)) (fun i _ => l.length - (intOf i).toNat)
            case atStart => exact ⟨0, Nat.zero_le _, rfl, HL0⟩
            case round =>
              clear HL0
              obtain ⟨k, hk, rfl, HL⟩ := hrel
              by_cases hlt : k < l.length
              · have hlt' : (k : Int) < (l.length : Int) := by omega
                obtain ⟨d, hd⟩ : ∃ d, l[k]? = some d := ⟨_, List.getElem?_eq_getElem hlt⟩
                have hbw : Below w.heap.size w wr := by
                  obtain ⟨g, S, f, v, n, h1, _⟩ := unhide HL
                  exact h1.lw.below
                obtain ⟨b, off, rfl, hc⟩ := (unhide HH).mem (by intro e; subst e; simp at hd)
                obtain ⟨a, hv, c0, c1, c2, c3⟩ := hc k d hd
                have kk : ∀ {q : Addr} {v : Value}, w.cell? q = some v → wr.cell? q = some v := fun {q v} e => by
                  rw [hbw.cell (World.block_lt_of_cell? w _ e)]; exact e
                have k0 := kk c0
                have k1 := kk c1
                have k2 := kk c2
                have k3 := kk c3
                obtain ⟨W, hW⟩ : ∃ W, W = wr.alloc (.cells #[.int .i64 d.o, .slice a.x d.l.length a.c, .slice a.y d.k.length a.m, .int .i64 d.n] 33) := ⟨_, rfl⟩
                obtain ⟨Z, hZ⟩ : ∃ Z, Z = wr.heap.size := ⟨_, rfl⟩
                have hbW : Below wr.heap.size wr W := by rw [hW]; exact (Below.refl _ _).alloc (Nat.le_refl _) _
                have hrW : W.heap[Z]? = some (.cells #[.int .i64 d.o, .slice a.x d.l.length a.c, .slice a.y d.k.length a.m, .int .i64 d.n] 33 (0, 0)) := by rw [hZ, hW]; exact heap_alloc_new _ _
                have d1 : W.cell? ⟨Z, 1, none⟩ = some (.slice a.x d.l.length a.c) := cell_of_row _ _ _ _ _ _ hrW
                have HCM := hide (commitL w wr W Q l k d a.x a.c (unhide HE) (unhide HL) (shr6_sum (unhide HSL)) hd hbW hv.l)
                clear kk c0 c1 c2 c3 hc hv hrW hbW hbw hd
                go_upto_region 9 with fail
                rw [← hW, ← hZ]
                clear hW hZ k0 k1 k2 k3
                go_wp2_with fail
                refine (unhide HCM).mono ?_
                rintro e w3 ⟨x, E, rfl, HL3⟩
                clear HCM
                go_wp2_with fail
                go_roundw
                case rel => exact ⟨k + 1, by omega, by go_num, HL3⟩
                case measure => simp [intOf]; omega
              · obtain rfl : k = l.length := by omega
                obtain ⟨g0, S, f, v, n, q1, q2⟩ := unhide HL
                have hn : n ≤ 1000000 := by have := sumN_takeLe l l.length; have := (shr6_sum (unhide HSL)).2.1; omega
                have HK := hide q1
                generalize hK9 : l.length = K9 at *
                have HSC : Hid (∀ (g : Nat → Tg) (u : World) (pf pt : Nm), KP w u g Q S f v K9 n → Calls Tryz.prog 21 #[.pointer (some ⟨Q, 0, none⟩), .string (str pf), .string (str pt)] u fun e w' => ∃ a c l g', e = .returned (.slice a l.length c) ∧ Hid (KP w w' g' Q S f v K9 n) ∧ Hid (R6 w' g' a c l) ∧ Hid (Fr u w' g g') ∧ Hid (Gth f (fun x => scP pf pt x) (fun _ => false) l ∧ Rise l) ∧ l.length ≤ 1000000) := fun g u pf pt hk => scan_r w g Q S f v K9 n pf pt u hk hn
                have e0 : str ([] : Nm) = ⟨#[]⟩ := rfl
                clear q1 q2 HL hn
                have HS1 := hide (unhide HSC g0 wr [] B (unhide HK))
                rw [e0] at HS1
                go_wp2_with fail
                refine (unhide HS1).mono ?_
                rintro e w3 ⟨a1, c1, l1, g1, rfl, HK1, HR1, HF1, HG1, hl1⟩
                clear HS1 HF1
                have HS2 := hide (unhide HSC g1 w3 B [] (unhide HK1))
                rw [e0] at HS2
                go_wp2_with fail
                refine (unhide HS2).mono ?_
                rintro e w4 ⟨a2, c2, l2, g2, rfl, HK2, HR2, HF2, HG2, hl2⟩
                have HR1b := hide ((unhide HR1).fr (unhide HF2))
                clear HS2
                obtain ⟨W5, hW5⟩ : ∃ W, W = w4.alloc (.cells #[.slice a1 l1.length c1, .slice a2 l2.length c2] 39) := ⟨_, rfl⟩
                have HC := hide (concat_r w g2 Q S f v K9 n a1 c1 l1 a2 c2 l2 w4 (unhide HK2) (unhide HR1b) (unhide HR2) hl1 hl2 W5 hW5)
                go_wp2_with fail
                rw [← hW5]
                clear hW5
                refine (unhide HC).mono ?_
                rintro e w5 ⟨a3, c3, l3, g3, rfl, HQ3, HK3, HR3, HF3⟩
                have hl3 : l3.length ≤ 2000000 := by rw [unhide HQ3, List.length_append]; omega
                clear HC HR1 HR1b HR2 HF3 HK1 HK2 HF2
                have HS3 := hide (unhide HSC g3 w5 A B (unhide HK3))
                go_wp2_with fail
                refine (unhide HS3).mono ?_
                rintro e w6 ⟨a4, c4, l4, g4, rfl, HK4, HR4, HF4, HG4, hl4⟩
                have HR3b := hide ((unhide HR3).fr (unhide HF4))
                clear HS3
                have HS4 := hide (unhide HSC g4 w6 B C (unhide HK4))
                go_wp2_with fail
                refine (unhide HS4).mono ?_
                rintro e w7 ⟨a5, c5, l5, g5, rfl, HK5, HR5, HF5, HG5, hl5⟩
                have HR3c := hide ((unhide HR3b).fr (unhide HF5))
                have HR4b := hide ((unhide HR4).fr (unhide HF5))
                clear HS4
                obtain ⟨W8, hW8⟩ : ∃ W, W = w7.alloc (.cells #[.slice a4 l4.length c4, .slice a5 l5.length c5] 39) := ⟨_, rfl⟩
                have HC := hide (concat_r w g5 Q S f v K9 n a4 c4 l4 a5 c5 l5 w7 (unhide HK5) (unhide HR4b) (unhide HR5) hl4 hl5 W8 hW8)
                go_wp2_with fail
                rw [← hW8]
                clear hW8
                refine (unhide HC).mono ?_
                rintro e w8 ⟨a6, c6, l6, g6, rfl, HQ6, HK6, HR6, HF6⟩
                have HR3d := hide ((unhide HR3c).fr (unhide HF6))
                clear HC HR3 HR3b HR3c HR4 HR4b HR5 HF4 HF5 HF6 HK3 HK4 HK5
                have HS5 := hide (unhide HSC g6 w8 A C (unhide HK6))
                go_wp2_with fail
                refine (unhide HS5).mono ?_
                rintro e w9 ⟨a7, c7, l7, g7, rfl, HK7, HR7, HF7, HG7, hl7⟩
                have HR3e := hide ((unhide HR3d).fr (unhide HF7))
                have HR6b := hide ((unhide HR6).fr (unhide HF7))
                obtain rfl : l6 = l7 := by
                  rw [unhide HQ6]
                  exact scan_cat1 (unhide HG4).1 (unhide HG4).2 (unhide HG5).1 (unhide HG5).2 (unhide HG7).1 (unhide HG7).2 (unhide HLE).1 (unhide HLE).2.2.1 (.inr (unhide HLE).2.1)
                have HEQ := hide (equal_im a6 a7 c6 c7 l6 w9 (unhide HR6b).ow (unhide HR7).ow hl7)
                clear HS5 HR3d HR6 HF7
                go_wp2_with fail
                refine (unhide HEQ).mono ?_
                rintro e z1 ⟨rfl, HBx⟩
                have HKx := hide ((unhide HK7).below (unhide HBx))
                have HR3f := hide ((unhide HR3e).fr ((Fr.refl _ g7).bel (unhide HBx)))
                clear HEQ HR3e HR6b HR7 HK7 HBx
                have HS6 := hide (unhide HSC g7 z1 [] [] (unhide HKx))
                rw [e0] at HS6
                go_wp2_with fail
                refine (unhide HS6).mono ?_
                rintro e x2 ⟨a8, c8, l8, g8, rfl, HK8, HR8, HF8, HG8, hl8⟩
                have HR3g := hide ((unhide HR3f).fr (unhide HF8))
                obtain rfl : l3 = l8 := by
                  rw [unhide HQ3]
                  exact scan_cat1 (unhide HG1).1 (unhide HG1).2 (unhide HG2).1 (unhide HG2).2 (unhide HG8).1 (unhide HG8).2 (nil_le B) (unhide HLE).2.2.1 (.inl rfl)
                have HEQ := hide (equal_im a3 a8 c3 c8 l3 x2 (unhide HR3g).ow (unhide HR8).ow hl8)
                clear HS6 HR3f HF8
                go_wp2_with fail
                refine (unhide HEQ).mono ?_
                rintro e x3 ⟨rfl, HBx⟩
                have HAK := hide (awake_kp (unhide HE) ((unhide HK8).below (unhide HBx)))
                clear HEQ HR3g HR8 HK8 HBx
                go_wp2_with fail
                refine (unhide HAK).mono ?_
                rintro e x4 ⟨rfl, HBF⟩
                go_wp2_with fail
                go_ret
                exact ⟨rfl, HBF⟩
theorem kvstorePieces_walk (p : Option Addr) (c : Nat) (l : List D6) (A B C : Nm) (w : World) (h : DR6 w p l) (_ : A.length ≤ maxLen) (_ : B.length ≤ maxLen) (_ : C.length ≤ maxLen) (hE : EnvS w) :
    Calls Tryz.prog 6 #[.slice p l.length c, .string (str A), .string (str B), .string (str C)] w fun e w' => e = .returned (.bool true) ∧ Below w.heap.size w w' :=
  (pieces6 w p c l A B C h hE).mono fun e w' q => ⟨q.1, q.2⟩
#print axioms kvstorePieces_walk
end Go.Proofs.YtmcgghjeocnpnaaGreatDoor
end
