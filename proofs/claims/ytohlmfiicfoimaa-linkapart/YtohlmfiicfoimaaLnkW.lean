/-
  THE WALKS of link.New, Dial, Send and Carry.
-/
import Derived.Test.YtohlmfiicfoimaaLnkM
import Derived.Test.YtohlmfiicfoimaaSlcX
import Derived.Test.YtohlmfiicfoimaaOwn2
import Derived.Laws.Cover3
set_option linter.unusedVariables false
namespace Go.Proofs.Ytohlmfiicfoimaa
open Go.RowKit Go.Maps

theorem new_any (w : World) : Calls Try.prog 8 #[] w fun e w' => e = .returned (.pointer (some ⟨w.heap.size + 1, 0, none⟩)) ∧ w' = (w.alloc (.map #[] 0)).alloc (.cells #[.map (some w.heap.size), .int .i64 0] 59) := by
  have hmm := @run_makeMap Try.prog
  go_enter Try.func8, Try.ntmps8
  go_wp2
  go_ret
  exact ⟨by simp, rfl⟩

set_option maxRecDepth 20000 in
theorem unmade_not (N bm : Nat) (w : World) (h : w.cell? ⟨N, 0, none⟩ = some (.map (some bm))) :
    Calls Try.prog 36 #[.pointer (some ⟨N, 0, none⟩)] w fun e w' => e = .returned (.bool false) ∧ w' = w := by
  have hq : (binOp .eql 57 (.map (some bm)) (.map none)).run Try.prog w = .ok (.bool false) w := by
    have := run_equal_map_nil (P := Try.prog) w 57 _ _ (some bm) Try.underlying57
    simp [binOp, this]
  go_enter Try.func36, Try.ntmps36
  go_wp2
  go_ret
  exact ⟨rfl, rfl⟩

set_option maxHeartbeats 2000000 in
theorem conn_hit (N bm C : Nat) (p q : Int) (x : Option Addr) (k : Nat) (l : List UInt8) (w : World) (h : LS w N bm C p q x k l) :
    Calls Try.prog 39 #[.pointer (some ⟨N, 0, none⟩), .int .i64 1] w fun e w' => e = .returned (.tuple #[.pointer (some ⟨C, 0, none⟩), .int .i64 0]) ∧ w' = w := by
  have e0 := h.n0
  have hl := h.look
  go_enter Try.func39, Try.ntmps39
  go_wp2_with fail
  refine (unmade_not N bm w e0).mono ?_
  rintro e w' ⟨rfl, rfl⟩
  go_wp2
  go_ret2
  exact ⟨rfl, rfl⟩

set_option maxHeartbeats 2000000 in
theorem find_hit (N bm C : Nat) (p q : Int) (x : Option Addr) (k : Nat) (l : List UInt8) (node r : Int) (w : World) (h : LS w N bm C p q x k l) (Hr : Hid (r = if p = node then 0 else if q = node then 1 else -1)) (h0 : 0 ≤ r) :
    Calls Try.prog 44 #[.pointer (some ⟨N, 0, none⟩), .int .i64 1, .int .i64 node] w fun e w' => e = .returned (.tuple #[.pointer (some ⟨C, 0, none⟩), .int .i64 r, .int .i64 0]) ∧ Below w.heap.size w w' := by
  go_enter Try.func44, Try.ntmps44
  go_wp2_with fail
  refine (conn_hit N bm C p q x k l w h).mono ?_
  rintro e w1 ⟨rfl, rfl⟩
  go_wp2_with fail
  refine (side_any C p q false false none 0 0 x l.length k node r w1 h.con Hr).mono ?_
  rintro e w2 ⟨rfl, hb⟩
  go_wp2
  go_ret3
  exact ⟨rfl, hb⟩

set_option maxHeartbeats 4000000 in
theorem dial_new (N bm : Nat) (p q : Int) (w : World) (hp0 : 0 ≤ p) (hp1 : p < 16) (hq0 : 0 ≤ q) (hq1 : q < 16) (hpq : p ≠ q)
    (hN : w.heap[N]? = some (.cells #[.map (some bm), .int .i64 0] 59 (0, 0))) (hm : w.ownsMap Try.prog 3 ptrElem bm 0 (.map [])) :
    Calls Try.prog 20 #[.pointer (some ⟨N, 0, none⟩), .int .i64 p, .int .i64 q] w fun e w' => e = .returned (.tuple #[.int .i64 1, .int .i64 0]) ∧ ∃ C, w.heap.size ≤ C ∧ LS w' N bm C p q none 0 [] ∧ Kp w w' (fun j => j = N ∨ j = bm) := by
  have e0 : w.cell? ⟨N, 0, none⟩ = some (.map (some bm)) := by rw [cell_of_row w N 0 _ _ _ hN]; rfl
  have e1 : w.cell? ⟨N, 1, none⟩ = some (.int .i64 0) := by rw [cell_of_row w N 1 _ _ _ hN]; rfl
  have f1 : w.frozen? ⟨N, 1, none⟩ = false := frozen_of_row w N 1 _ _ hN
  have hpd : (p == q) = false := by simp [hpq]
  go_enter Try.func20, Try.ntmps20
  go_wp2_with fail
  refine (unmade_not N bm w e0).mono ?_
  rintro e w' ⟨rfl, rfl⟩
  go_wp2_with fail
  refine (isnode_any p w' hp0 hp1).mono ?_
  rintro e w'' ⟨rfl, rfl⟩
  go_wp2_with fail
  refine (isnode_any q w'' hq0 hq1).mono ?_
  rintro e w ⟨rfl, rfl⟩
  go_wp2_with (at_len; refine wpList_len_own _ rfl _ 57 rfl 3 68 Try.underlying57 _ bm 0 _ rfl hm ?_)
  have hNlt := (Array.getElem?_eq_some_iff.1 hN).1
  have hbne : bm ≠ N := by
    intro e
    subst e
    obtain ⟨es, clock, h1, _⟩ := hm
    rw [hN] at h1
    simp at h1
  obtain ⟨w1, hw1⟩ : ∃ w1, w1 = w.setCell ⟨N, 1, none⟩ (.int .i64 1) := ⟨_, rfl⟩
  have hN1 : w1.heap[N]? = some (.cells #[.map (some bm), .int .i64 1] 59 (0, 0)) := by
    rw [hw1]
    simp only [World.setCell, Array.getElem?_modify]
    rw [if_pos trivial, hN]
    rfl
  have g1 : w.grownBy w1 (some N) := by rw [hw1]; exact ⟨rfl, rfl, rfl, by simp [World.setCell], fun k hk hne => Below.heap_setCell w ⟨N, 1, none⟩ _ k (by intro h; subst h; exact hne rfl)⟩
  have hm1 : w1.ownsMap Try.prog 3 ptrElem bm 0 (.map []) := hm.kept g1 (by simpa using hbne)
  rw [← hw1]
  have hs1 : w1.heap.size = w.heap.size := by rw [hw1]; simp [World.setCell]
  have HS1 := hide hs1
  have hNlt1 : N < w1.heap.size := by omega
  clear hw1 hm e0 e1 f1 hs1
  have c0 : w1.cell? ⟨N, 0, none⟩ = some (.map (some bm)) := by rw [cell_of_row w1 N 0 _ _ _ hN1]; rfl
  have c1 : w1.cell? ⟨N, 1, none⟩ = some (.int .i64 1) := by rw [cell_of_row w1 N 1 _ _ _ hN1]; rfl
  have ha : ∀ o, (w1.alloc o).heap[N]? = some (.cells #[.map (some bm), .int .i64 1] 59 (0, 0)) := fun o => by rw [Below.heap_alloc w1 o N hNlt1]; exact hN1
  have d0 : ∀ o, (w1.alloc o).cell? ⟨N, 0, none⟩ = some (.map (some bm)) := fun o => by rw [cell_of_row _ N 0 _ _ _ (ha o)]; rfl
  have d1 : ∀ o, (w1.alloc o).cell? ⟨N, 1, none⟩ = some (.int .i64 1) := fun o => by rw [cell_of_row _ N 1 _ _ _ (ha o)]; rfl
  obtain ⟨w2, hup, hown2, hturn2⟩ := ((hm1.alloc (.cells #[.int .i64 p, .bool false, .slice none 0 0, .int .i64 q, .bool false, .slice none 0 0] 83)).drew).store law Try.underlying57 (by unfold maxLen; omega) (key := .int .i64 1) (val := .pointer (some ⟨w1.heap.size, 0, none⟩)) (d := .lit (.int .i64 (w1.heap.size : Int))) (ps := []) key_one rfl
  have HA := hide ha
  clear ha
  go_region
  have hg2 := hturn2.grown
  obtain ⟨W, hW⟩ : ∃ W, W = (w1.alloc (.cells #[.int .i64 p, .bool false, .slice none 0 0, .int .i64 q, .bool false, .slice none 0 0] 83)).drew := ⟨_, rfl⟩
  have hWN : W.heap[N]? = some (.cells #[.map (some bm), .int .i64 1] 59 (0, 0)) := by rw [hW]; exact unhide HA _
  have hWC : ConC W w1.heap.size p q false false none 0 0 none 0 0 := by rw [hW]; exact heap_alloc_new w1 _
  have gW : Kp w1 W (fun j => j = N ∨ j = bm) := by rw [hW]; exact Kp.of ((Below.refl _ _).alloc (Nat.le_refl _) _).drew
  rw [← hW] at hg2
  clear hup d0 d1 HA hturn2
  have hsW : w1.heap.size < W.heap.size := hWC.lt
  have bml : bm < w1.heap.size := hm1.lt
  have hN2 : w2.heap[N]? = some (.cells #[.map (some bm), .int .i64 1] 59 (0, 0)) := by rw [hg2.block N (by omega) (by simp; exact fun h => hbne h.symm)]; exact hWN
  have hC2 : ConC w2 w1.heap.size p q false false none 0 0 none 0 0 := by
    unfold ConC
    rw [hg2.block w1.heap.size hsW (by simp; omega)]
    exact hWC
  have k1 : w2.cell? ⟨N, 1, none⟩ = some (.int .i64 1) := by rw [cell_of_row w2 N 1 _ _ _ hN2]; rfl
  clear c0 c1 hW
  go_wp2
  go_ret2
  refine ⟨rfl, w1.heap.size, Nat.le_of_eq (unhide HS1).symm, ⟨hN2, hown2, hC2, ⟨fun h => absurd rfl h, Nat.le_refl _, by unfold maxLen; omega, fun _ => rfl⟩⟩, ?_⟩
  have q1 : Kp w w1 (fun j => j = N ∨ j = bm) := Kp.ofG g1 (fun k hk => by simp at hk; exact .inl hk.symm)
  exact (q1.trans gW).trans (Kp.ofG hg2 (fun k hk => by simp at hk; exact .inr hk.symm))
theorem ConC.set5 {w : World} {C : Nat} {a b : Int} {c0 c1 : Bool} {x0 : Option Addr} {n0 k0 : Nat} {x1 : Option Addr} {n1 k1 : Nat} (h : ConC w C a b c0 c1 x0 n0 k0 x1 n1 k1) (x : Option Addr) (n k : Nat) : ConC (w.setCell ⟨C, 5, none⟩ (.slice x n k)) C a b c0 c1 x0 n0 k0 x n k := by
  unfold ConC at *
  simp only [World.setCell, Array.getElem?_modify]
  rw [if_pos trivial, h]
  rfl
theorem ConC.kept {w w' : World} {C : Nat} {a b : Int} {c0 c1 : Bool} {x0 : Option Addr} {n0 k0 : Nat} {x1 : Option Addr} {n1 k1 : Nat} (h : ConC w C a b c0 c1 x0 n0 k0 x1 n1 k1) {row : Option Nat} (hg : w.grownBy w' row) (hne : some C ≠ row) : ConC w' C a b c0 c1 x0 n0 k0 x1 n1 k1 := by
  unfold ConC at *
  rw [hg.block C (Array.getElem?_eq_some_iff.1 h).1 hne]
  exact h
theorem ConC.ne {w : World} {C base cap : Nat} {x : Option Addr} {l : List UInt8} {a b : Int} {c0 c1 : Bool} {x0 : Option Addr} {n0 k0 : Nat} {x1 : Option Addr} {n1 k1 : Nat} (h : ConC w C a b c0 c1 x0 n0 k0 x1 n1 k1) (o : OwnB w base x cap l) : blk x ≠ some C := by
  intro e
  rcases o.cases with ⟨rfl, _, _⟩ | ⟨g, cur, rfl, _, hg, _⟩
  · simp [blk] at e
  · simp [blk] at e
    subst e
    unfold ConC at h
    rw [hg] at h
    simp at h
theorem LS.neNC {w : World} {N bm C : Nat} {p q : Int} {x : Option Addr} {k : Nat} {l : List UInt8} (h : LS w N bm C p q x k l) : N ≠ C := by
  intro e
  subst e
  have h1 := h.net
  have h2 := h.con
  unfold ConC at h2
  rw [h1] at h2
  simp at h2
theorem LS.neMC {w : World} {N bm C : Nat} {p q : Int} {x : Option Addr} {k : Nat} {l : List UInt8} (h : LS w N bm C p q x k l) : bm ≠ C := by
  intro e
  subst e
  have h2 := h.con
  obtain ⟨es, clock, h1, _⟩ := h.own
  unfold ConC at h2
  rw [h1] at h2
  simp at h2
theorem LS.neNx {w : World} {N bm C : Nat} {p q : Int} {x y : Option Addr} {k : Nat} {l : List UInt8} {base cap : Nat} {r : List UInt8} (h : LS w N bm C p q x k l) (o : OwnB w base y cap r) : blk y ≠ some N ∧ blk y ≠ some bm := by
  rcases o.cases with ⟨rfl, _, _⟩ | ⟨g, cur, rfl, _, hg, _⟩
  · simp [blk]
  · constructor
    · intro e
      simp [blk] at e
      subst e
      have h1 := h.net
      rw [hg] at h1
      simp at h1
    · intro e
      simp [blk] at e
      subst e
      obtain ⟨es, clock, h1, _⟩ := h.own
      rw [hg] at h1
      simp at h1
theorem gset' (w : World) (p : Addr) (u : Value) : w.grownBy (w.setCell p u) (some p.block) :=
  ⟨rfl, rfl, rfl, by simp [World.setCell], fun k hk hne => Below.heap_setCell w p u k (by intro h; subst h; exact hne rfl)⟩

set_option maxHeartbeats 2000000 in
theorem send_any (N bm C : Nat) (p q : Int) (x : Option Addr) (k : Nat) (l : List UInt8) (base : Nat) (a : Option Addr) (cap : Nat) (lb : List UInt8) (w : World) (h : LS w N bm C p q x k l) (ho : OwnB w base x k l) (hs : Bs w a cap lb) (hlen : l.length + lb.length ≤ 131072) (hbase : base ≤ w.heap.size) :
    Calls Try.prog 21 #[.pointer (some ⟨N, 0, none⟩), .int .i64 1, .int .i64 p, .slice a lb.length cap] w fun e w' => e = .returned (.int .i64 0) ∧ ∃ x' k' r, Hid (r = l ++ lb) ∧ LS w' N bm C p q x' k' r ∧ OwnB w' base x' k' r ∧ Kp w w' (fun j => j = C ∨ blk x = some j) := by
  go_enter Try.func21, Try.ntmps21
  go_wp2_with fail
  refine (find_hit N bm C p q x k l p 0 w h (by show _ = _; simp) (by omega)).mono ?_
  rintro e w1 ⟨rfl, hb1⟩
  have h1 := h.below hb1
  have ho1 := ho.below hb1 (Nat.le_refl _)
  have hs1 := hs.below hb1 (Nat.le_refl _)
  have kp1 : Kp w w1 (fun j => j = C ∨ blk x = some j) := Kp.of hb1
  have hsz := hb1.size
  clear h ho hs hb1
  obtain ⟨e0, e1, e2, e3, e4, e5⟩ := h1.con.cells
  go_wp2_with (at_builtin; refine wp_app _ rfl _ _ rfl base x k l rfl ho1 a cap lb lb.length rfl rfl hs1.row hs1.nz ?c5 ?c6 ?_)
  case c5 => omega
  case c6 => omega
  intro x2 k2 r w2 hr ho2 hg2
  have hne := h1.con.ne ho1
  have hc2 := h1.con.kept hg2 (fun e => hne e.symm)
  have g5 := hc2.cells.2.2.2.2.2
  have f5 := hc2.fr 5
  have hnx := h1.neNx ho1
  have hrl : r.length ≤ 131072 := by rw [unhide hr, List.length_append]; omega
  have hne2 := hc2.ne ho2
  have hN2 : w2.heap[N]? = some (.cells #[.map (some bm), .int .i64 1] 59 (0, 0)) := by rw [hg2.block N (Array.getElem?_eq_some_iff.1 h1.net).1 (fun e => hnx.1 e.symm)]; exact h1.net
  have hM2 := h1.own.kept hg2 (fun e => hnx.2 e.symm)
  have HL : Hid (LS (w2.setCell ⟨C, 5, none⟩ (.slice x2 r.length k2)) N bm C p q x2 k2 r) := by
    refine ⟨?_, ?_, hc2.set5 x2 r.length k2, (ho2.kept (gset' w2 ⟨C, 5, none⟩ _) (.inr hne2)).toBs⟩
    · rw [(gset' w2 ⟨C, 5, none⟩ (.slice x2 r.length k2)).block N (Array.getElem?_eq_some_iff.1 hN2).1 (by simp; exact h1.neNC)]; exact hN2
    · exact hM2.kept (gset' w2 ⟨C, 5, none⟩ _) (by simp; exact h1.neMC)
  have HO : Hid (OwnB (w2.setCell ⟨C, 5, none⟩ (.slice x2 r.length k2)) base x2 k2 r) := ho2.kept (gset' w2 ⟨C, 5, none⟩ _) (.inr hne2)
  have HK : Hid (Kp w (w2.setCell ⟨C, 5, none⟩ (.slice x2 r.length k2)) (fun j => j = C ∨ blk x = some j)) := (kp1.trans (Kp.ofG hg2 (fun j hj => .inr hj))).trans (Kp.ofG (gset' w2 ⟨C, 5, none⟩ _) (fun j hj => by simp at hj; exact .inl hj.symm))
  have HR := hr
  clear hr hg2 ho2 hM2 hN2 hc2 hne hne2 hnx ho1 hs1 e0 e1 e2 e3 e4 e5
  go_wp2
  go_ret
  exact ⟨rfl, x2, k2, r, HR, unhide HL, unhide HO, unhide HK⟩

theorem gtr {a b c : World} {row : Option Nat} (h : a.grownBy b row) (k : b.grownBy c row) : a.grownBy c row :=
  ⟨k.os.trans h.os, k.tape.trans h.tape, k.output.trans h.output, Nat.le_trans h.size k.size, fun i hi hne => (k.block i (Nat.lt_of_lt_of_le hi h.size) hne).trans (h.block i hi hne)⟩

set_option maxRecDepth 20000 in
set_option maxHeartbeats 2000000 in
theorem take_any (C : Nat) (p q : Int) (c0 c1 : Bool) (x0 : Option Addr) (n0 k0 : Nat) (x : Option Addr) (k : Nat) (l : List UInt8) (m : Int) (M : Nat) (w : World) (h : ConC w C p q c0 c1 x0 n0 k0 x l.length k) (hr : Bs w x k l) (hx : blk x ≠ some C) (hl : l.length ≤ 1000000) (hm : 0 ≤ m) (hm1 : m ≤ 9223372036854775807) (HM : Hid (M = min m.toNat l.length)) :
    Calls Try.prog 45 #[.pointer (some ⟨C, 3, none⟩), .int .i64 m] w fun e w' => ∃ a' cap' r, e = .returned (.slice a' r.length cap') ∧ Hid (r = l.take M) ∧ OwnB w' w.heap.size a' cap' r ∧ w.grownBy w' (some C) ∧ ∃ x' k', (blk x' = none ∨ blk x' = blk x) ∧ ConC w' C p q c0 c1 x0 n0 k0 x' (l.drop M).length k' ∧ Bs w' x' k' (l.drop M) := by
  obtain ⟨e0, e1, e2, e3, e4, e5⟩ := h.cells
  have hif : (if (l.length : Int) < m then (l.length : Int) else m) = (M : Int) := by rw [unhide HM]; split <;> omega
  have hMl : M ≤ l.length := by rw [unhide HM]; omega
  have hle := hr.le
  have hmost := hr.most
  obtain ⟨xh, hh, hhB, hhb⟩ := cut_head x l.length k M l hMl hle (fun h => by obtain ⟨b, off, e, _⟩ := hr.row h; exact ⟨b, off, e⟩)
  have hh1 := hh w
  have HB1 := hide (hhB w hr)
  clear hh hhB hhb
  go_enter Try.func45, Try.ntmps45
  go_wp2_with fail
  refine (bclone_any xh M k (l.take M) w (unhide HB1) (by simp; omega) (by simp; omega)).mono ?_
  rintro e w1 ⟨a1, cap1, r, rfl, hr1, ho1, hb1⟩
  have hc1 := h.below hb1 (Nat.le_refl _)
  have hr2 := hr.below hb1 (Nat.le_refl _)
  obtain ⟨_, _, _, _, _, g5⟩ := hc1.cells
  have f5 := hc1.fr 5
  obtain ⟨xt, ht, htB, htb⟩ := cut_tail x k M l hle hMl (fun h => by obtain ⟨b, off, e, _⟩ := hr.row h; exact ⟨b, off, e⟩)
  have ht1 := ht w1
  have HBt := hide (htB w1 hr2)
  clear ht hh1 HB1 e0 e1 e2 e3 e4 e5 htB hif
  have hone := hc1.set5 xt (l.length - M) (k - M)
  have g6 := hone.cells.2.2.2.2.2
  have f6 := hone.fr 5
  have hlo := (ho1.lt)
  have hneC : blk a1 ≠ some C := by
    intro e
    have := (hlo C e).1
    have := h.lt
    omega
  have gb1 : w.grownBy w1 (some C) := ⟨hb1.os, hb1.tape, hb1.output, hb1.size, fun j hj _ => hb1.block j hj⟩
  have HO := hide (ho1.kept (gset' w1 ⟨C, 5, none⟩ (.slice xt (l.length - M) (k - M))) (.inr hneC))
  have HG := hide (gtr gb1 (gset' w1 ⟨C, 5, none⟩ (.slice xt (l.length - M) (k - M))))
  have HT : Hid (Bs (w1.setCell ⟨C, 5, none⟩ (.slice xt (l.length - M) (k - M))) xt (k - M) (l.drop M)) := (unhide HBt).grown (gset' w1 ⟨C, 5, none⟩ _) (.inr (by rw [htb]; exact hx))
  have HC := hide hone
  clear hone ho1 hr2 gb1 hb1 hlo
  have hdl : (l.drop M).length = l.length - M := by simp
  by_cases hz : l.length - M = 0
  · have hzd : (((l.length - M : Nat) : Int) == 0) = true := by rw [hz]; rfl
    have HD : Hid (l.drop M = []) := by show _ = _; exact List.drop_eq_nil_of_le (by omega)
    have HG2 := hide (gtr (unhide HG) (gset' (w1.setCell ⟨C, 5, none⟩ (.slice xt (l.length - M) (k - M))) ⟨C, 5, none⟩ (.slice none 0 0)))
    have HC2 := hide ((unhide HC).set5 none 0 0)
    have HO2 := hide ((unhide HO).kept (gset' (w1.setCell ⟨C, 5, none⟩ (.slice xt (l.length - M) (k - M))) ⟨C, 5, none⟩ (.slice none 0 0)) (.inr hneC))
    clear hz HG HC HO HT HBt hdl
    go_wp2
    go_ret
    exact ⟨a1, cap1, r, rfl, hr1, unhide HO2, unhide HG2, none, 0, .inl rfl, by rw [unhide HD]; exact unhide HC2, by rw [unhide HD]; exact ⟨fun h => absurd rfl h, Nat.le_refl _, by unfold maxLen; omega, fun _ => rfl⟩⟩
  · have hzd : (((l.length - M : Nat) : Int) == 0) = false := by simp; omega
    clear hz
    go_wp2
    go_ret
    exact ⟨a1, cap1, r, rfl, hr1, unhide HO, unhide HG, xt, k - M, .inr htb, by rw [hdl]; exact unhide HC, unhide HT⟩

set_option maxHeartbeats 2000000 in
theorem forget_open (N bm C : Nat) (p q : Int) (x : Option Addr) (k : Nat) (l : List UInt8) (w : World) (h : LS w N bm C p q x k l) :
    Calls Try.prog 46 #[.pointer (some ⟨N, 0, none⟩), .int .i64 1] w fun e w' => e = .returned (.tuple #[]) ∧ Below w.heap.size w w' := by
  have e0 := h.n0
  have hl := h.look1
  go_enter Try.func46, Try.ntmps46
  go_wp2_with fail
  refine (over_open C p q false none 0 0 x l.length k w h.con).mono ?_
  rintro e w1 ⟨rfl, hb⟩
  go_wp2
  go_end0
  exact ⟨rfl, hb⟩

set_option maxHeartbeats 2000000 in
theorem carry_any (N bm C : Nat) (p q : Int) (x : Option Addr) (k : Nat) (l : List UInt8) (m : Int) (M : Nat) (w : World) (h : LS w N bm C p q x k l) (hx : blk x ≠ some C) (hxN : blk x ≠ some N ∧ blk x ≠ some bm) (hpq : p ≠ q) (hl : l.length ≤ 1000000) (hm : 0 ≤ m) (hm1 : m ≤ 9223372036854775807) (HM : Hid (M = min m.toNat l.length)) :
    Calls Try.prog 16 #[.pointer (some ⟨N, 0, none⟩), .int .i64 1, .int .i64 q, .int .i64 m] w fun e w' => ∃ a' cap' r, e = .returned (.tuple #[.slice a' r.length cap', .int .i64 0]) ∧ Hid (r = l.take M) ∧ OwnB w' w.heap.size a' cap' r ∧ Kp w w' (fun j => j = C) ∧ ∃ x' k', (blk x' = none ∨ blk x' = blk x) ∧ LS w' N bm C p q x' k' (l.drop M) := by
  go_enter Try.func16, Try.ntmps16
  go_wp2_with fail
  refine (find_hit N bm C p q x k l q 1 w h (by show _ = _; rw [if_neg hpq, if_pos rfl]) (by omega)).mono ?_
  rintro e w1 ⟨rfl, hb1⟩
  have h1 := h.below hb1
  have kp1 : Kp w w1 (fun j => j = C) := Kp.of hb1
  have hsz := hb1.size
  clear h hb1
  go_wp2_with fail
  refine (take_any C p q false false none 0 0 x k l m M w1 h1.con h1.row hx hl hm hm1 HM).mono ?_
  rintro e w2 ⟨a1, cap1, r, rfl, hr, ho, hg, x2, k2, hb2, hc2, hB2⟩
  have hN2 : w2.heap[N]? = some (.cells #[.map (some bm), .int .i64 1] 59 (0, 0)) := by rw [hg.block N (Array.getElem?_eq_some_iff.1 h1.net).1 (by simp; exact h1.neNC)]; exact h1.net
  have hM2 := h1.own.kept hg (by simp; exact h1.neMC)
  have h2 : LS w2 N bm C p q x2 k2 (l.drop M) := ⟨hN2, hM2, hc2, hB2⟩
  have kp2 := kp1.trans (Kp.ofG hg (fun j hj => by simp at hj; exact hj.symm))
  clear h1 hN2 hM2 hc2 hB2 hg kp1
  go_wp2_with fail
  refine (forget_open N bm C p q x2 k2 (l.drop M) w2 h2).mono ?_
  rintro e w3 ⟨rfl, hb3⟩
  have h3 := h2.below hb3
  have ho3 := ho.below hb3 (Nat.le_refl _)
  have kp3 := kp2.trans (Kp.of hb3)
  clear h2 ho hb3 kp2
  go_wp2
  go_ret2
  exact ⟨a1, cap1, r, rfl, hr, ho3.base hsz, kp3, x2, k2, hb2, h3⟩

set_option maxHeartbeats 2000000 in
theorem eqs_n (a1 : Option Addr) (cap1 : Nat) (l1 : List UInt8) (a2 : Option Addr) (cap2 : Nat) (l2 : List UInt8) (n1 n2 : Nat) (w : World) (h1 : Row w a1 l1) (h2 : Row w a2 l2) (E1 : Hid (n1 = l1.length)) (E2 : Hid (n2 = l2.length)) (hl1 : n1 ≤ 1000000000) (hl2 : n2 ≤ 1000000000) :
    Calls Try.prog 24 #[.slice a1 n1 cap1, .slice a2 n2 cap2] w fun e w' => e = .returned (.bool (l1 == l2)) ∧ Below w.heap.size w w' := by
  by_cases hl : n1 = n2
  · subst hl
    go_enter Try.func24, Try.ntmps24
    go_wp2
    go_loopw [13] (fun i wr => ∃ k : Nat, k ≤ n1 ∧ i = .int .i64 (k : Int) ∧ Hid (l1.take k = l2.take k) ∧ Below w.heap.size w wr) (fun i _ => n1 - (intOf i).toNat)
    case atStart => exact ⟨0, Nat.zero_le _, rfl, (by show _ = _; simp), Below.refl _ _⟩
    case round =>
      obtain ⟨k, hk, rfl, HT, hb⟩ := hrel
      by_cases hlt : k < n1
      · have hk1 : k < l1.length := by have := unhide E1; omega
        have hk2 : k < l2.length := by have := unhide E2; omega
        obtain ⟨b1, o1, ea1, hc1⟩ := (h1.below hb (Nat.le_refl _)) (by intro e; subst e; simp at hk1)
        obtain ⟨b2, o2, ea2, hc2⟩ := (h2.below hb (Nat.le_refl _)) (by intro e; subst e; simp at hk2)
        subst ea1
        subst ea2
        have k1 := hc1 k hk1
        have k2 := hc2 k hk2
        have hlt2 : (k : Int) < (n1 : Int) := by omega
        obtain ⟨x, hx⟩ : ∃ x, x = l1.getD k 0 := ⟨_, rfl⟩
        obtain ⟨y, hy⟩ : ∃ y, y = l2.getD k 0 := ⟨_, rfl⟩
        rw [← hx] at k1
        rw [← hy] at k2
        have G1 : Hid (l1[k]? = some x) := by show _ = _; rw [hx]; simp [hk1]
        have G2 : Hid (l2[k]? = some y) := by show _ = _; rw [hy]; simp [hk2]
        clear hx hy hc1 hc2
        by_cases hxy : x = y
        · have hb1 : ((x.toNat : Int) != (y.toNat : Int)) = false := by rw [hxy]; simp
          have HT2 : Hid (l1.take (k + 1) = l2.take (k + 1)) := by show _ = _; rw [List.take_add_one, List.take_add_one, unhide HT, unhide G1, unhide G2, hxy]
          clear hxy
          go_wp2_with fail
          go_quiet (fail)
          go_wp2
          go_roundw
          case rel => exact ⟨k + 1, by omega, by go_num, HT2, below_drewN hb nq⟩
          case measure => simp [intOf]; omega
        · have hb1 : ((x.toNat : Int) != (y.toNat : Int)) = true := by
            simp only [bne_iff_ne, ne_eq]
            intro h
            exact hxy (UInt8.toNat_inj.1 (by omega))
          have HF : Hid ((l1 == l2) = false) := by
            show _ = _
            simp only [beq_eq_false_iff_ne, ne_eq]
            intro e
            apply hxy
            have := unhide G1
            rw [e, unhide G2] at this
            exact (Option.some.inj this).symm
          clear hxy
          go_wp2_with fail
          go_quiet (fail)
          go_wp2
          go_ret
          exact ⟨by rw [unhide HF]; rfl, below_drewN hb nq⟩
      · obtain rfl : k = n1 := by omega
        have HF : Hid ((l1 == l2) = true) := by
          show _ = _
          have e1 := unhide HT
          rw [List.take_of_length_le (by have := unhide E1; omega), List.take_of_length_le (by have := unhide E2; omega)] at e1
          rw [e1]; simp
        go_wp2
        go_ret
        exact ⟨by rw [unhide HF]; rfl, hb⟩
  · have HF : Hid ((l1 == l2) = false) := by
      show _ = _
      simp only [beq_eq_false_iff_ne, ne_eq]
      intro e
      apply hl
      rw [unhide E1, unhide E2, e]
    have hd : ((n1 : Int) != (n2 : Int)) = true := by simp; omega
    go_enter Try.func24, Try.ntmps24
    go_wp2
    go_ret
    exact ⟨by rw [unhide HF]; rfl, Below.refl _ _⟩
#print axioms carry_any
#print axioms eqs_n
end Go.Proofs.Ytohlmfiicfoimaa
