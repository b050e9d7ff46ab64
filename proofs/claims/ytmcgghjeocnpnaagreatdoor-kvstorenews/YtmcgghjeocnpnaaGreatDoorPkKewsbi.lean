/-
  kvstore's statements: begun; awake.; kvstore's statements: slices.Clone of ops.
-/
import Derived.Test.YtmcgghjeocnpnaaGreatDoorPkKewsbg
import Derived.Lib.SmallJoins
section
set_option linter.unusedVariables false
set_option maxRecDepth 1000000
namespace Go.Proofs.YtmcgghjeocnpnaaGreatDoor
open Go.RowKit Go.Maps Go.MuLone

set_option maxHeartbeats 2000000 in
theorem begun6 (w0 : World) (g : Nat → Tg) (z : Int) (w : World) (hE : EnvS w0) (hL : LW w0 w g) (h0 : 0 ≤ z) (h1 : z ≤ 16777216) :
    Calls Tryz.prog 11 #[.int .i64 z] w fun e w' => ∃ D Q, e = .returned (.tuple #[.pointer (some ⟨D, 0, none⟩), .pointer (some ⟨Q, 0, none⟩), .bool true]) ∧ Hid (KS0 w0 w' Q z) := by
  have HNE := hide (new_k w0 g 0 z w h0 h1 hL)
  have HEE := hide hE
  clear hE hL
  go_enter Tryz.func11, Tryz.ntmps11
  go_wp2_with fail
  refine (unhide HNE).mono ?_
  rintro e w1 ⟨D, g1, rfl, hd1, hL1, _, _⟩
  have HOP := hide (open6 w0 g1 D z w1 (unhide HEE) hL1 hd1)
  clear HNE hd1 hL1
  go_wp2_with fail
  refine (unhide HOP).mono ?_
  rintro e w2 ⟨Q, rfl, HO⟩
  clear HOP
  go_wp2_with fail
  go_ret3
  exact ⟨D, Q, rfl, HO⟩
#print axioms begun6
theorem nmS_one6 : nmS 1 = [115, 101, 103, 46, 48, 48, 48, 48, 48, 48, 48, 48, 48, 48, 48, 48, 48, 48, 48, 48, 48, 48, 49] := by
  unfold nmS padS
  rw [Lib.decDigits_one (by omega)]
  rfl
theorem wf_nil6 : Wf [] := ⟨fun i a b ha hb => by simp at hb, fun a ha => (by cases ha), fun a ha => (by cases ha)⟩
def kO : List Op6 := [⟨[97], false, [49]⟩]
def kR : List UInt8 := cmB 1 (wrI kO 1)
theorem k_ck : ckE kO = 0 := by kernel_rfl
theorem k_len : kR.length ≤ 100 := by
  have h : decide (kR.length ≤ 100) = true := by kernel_rfl
  exact of_decide_eq_true h
theorem k_e : apE (Md.new 1000) [] kR = 0 := by
  unfold apE
  have k1 : ¬ nxS [] = 9223372036854775807 := by show ¬ 1 = 9223372036854775807; omega
  have k3 : (form (nxS []) ++ kR).length < 200 := by
    have h : decide ((form (nxS []) ++ kR).length < 200) = true := by kernel_rfl
    exact of_decide_eq_true h
  have k4 : ¬ 65536 < (form (nxS []) ++ kR).length := by omega
  rw [if_neg k1, if_neg k4]
  show (Md.new 1000).writeE (nmS 1) (frmN 1 kR).length = 0
  rw [nmS_one6]
  kernel_rfl
#print axioms k_e
theorem k_get : gtI (Its.put (fun _ => none) (wrI kO 1)) [97] = ⟨[97], false, [49], 1⟩ ∧ gtB (Its.put (fun _ => none) (wrI kO 1)) [97] = true := by
  have e : (Its.put (fun _ => none) (wrI kO 1)) [97] = some ⟨[97], false, [49], 1⟩ := by
    show upd (fun _ => none) [97] (some (⟨[97], false, [49], 1⟩ : Im)) [97] = _
    rw [upd_same]
  unfold gtI gtB
  rw [e]
  exact ⟨rfl, rfl⟩
/-- The store behind the one commit. -/
def KA (w0 w : World) (Q : Nat) : Prop := ∃ g B D m M N S cnt y, KS w0 w g Q B D m 0 M N S (Its.put (fun _ => none) (wrI kO 1)) cnt 1 y
theorem commitA (w0 w1 : World) (Q : Nat) (hE : EnvS w0) (h : KS0 w0 w1 Q 1000) : Calls Tryz.prog 14 #[.pointer (some ⟨Q, 0, none⟩), .slice (some ⟨w1.heap.size, 0, none⟩) 1 1] (w1.alloc (.cells #[.string ⟨#[97]⟩, .bool false, .string ⟨#[49]⟩] 55)) fun e w' => e = .returned (.tuple #[.int .i64 1, .int .i64 0]) ∧ Hid (KA w0 w' Q) := by
  obtain ⟨g1, B, D, m, k1⟩ := h
  obtain ⟨W, hW⟩ : ∃ W, W = w1.alloc (.cells #[.string ⟨#[97]⟩, .bool false, .string ⟨#[49]⟩] 55) := ⟨_, rfl⟩
  have hb : Below w1.heap.size w1 W := by rw [hW]; exact (Below.refl _ _).alloc (Nat.le_refl _) _
  have hr : W.heap[w1.heap.size]? = some (.cells #[.string ⟨#[97]⟩, .bool false, .string ⟨#[49]⟩] 55 (0, 0)) := by rw [hW]; exact heap_alloc_new _ _
  obtain ⟨g2, hg2⟩ : ∃ g2 : Nat → Tg, g2 = fun k => if k < w1.heap.size then g1 k else .o := ⟨_, rfl⟩
  have k2 : KS w0 W g2 Q B D m 0 (Md.new 1000) 302 [] (fun _ => none) 0 0 0 := k1.st ((St.ofBelow g1 _ hb).tag (fun k hk => by rw [hg2]; exact if_pos hk))
  have ho : OpR6 W (some ⟨w1.heap.size, 0, none⟩) kO := by
    refine ⟨fun _ => ⟨w1.heap.size, 0, rfl, fun t o hto => ?_⟩, by show 1 ≤ maxLen; unfold maxLen; omega, fun o ho => ?_⟩
    · match t, hto with
      | 0, hto =>
        obtain rfl : (⟨[97], false, [49]⟩ : Op6) = o := by simpa [kO] using hto
        exact ⟨cell_of_row _ _ _ _ _ _ hr, cell_of_row _ _ _ _ _ _ hr, cell_of_row _ _ _ _ _ _ hr⟩
      | t + 1, hto => simp [kO] at hto
    · obtain rfl : o = (⟨[97], false, [49]⟩ : Op6) := by simpa [kO] using ho
      exact ⟨by show 1 ≤ maxLen; unfold maxLen; omega, by show 1 ≤ maxLen; unfold maxLen; omega⟩
  rw [← hW]
  refine (commit6 w0 g2 Q B D m (Md.new 1000) 302 [] (fun _ => none) 0 0 0 (some ⟨w1.heap.size, 0, none⟩) 1 kO W hE k2 ho (fun _ k hk => ?_) sok_nil wf_nil6 (by omega) (by simp) (by simp) (by simp [bySz]) (fun _ => rfl) (by omega) (by omega) (fun _ => Nat.le_trans k_len (by omega))).mono ?_
  · obtain rfl : w1.heap.size = k := by simpa [blk] using hk
    refine ⟨Nat.ne_of_gt k1.lt, Nat.ne_of_gt k1.im.lt, ?_⟩
    rw [hg2]
    simp only
    rw [if_neg (Nat.lt_irrefl _)]
    exact x01o
  · rintro e w' ⟨x, E, rfl, hc⟩
    rcases hc with ⟨hn, _⟩ | ⟨_, hE0, hrest⟩
    · exact absurd k_ck hn
    · have hE1 : E = 0 := hE0.trans k_e
      subst hE1
      rcases hrest with ⟨_, hx, g3, k3, _⟩ | ⟨hne, _⟩
      · refine ⟨by rw [hx]; rfl, g3, B, D, m, _, _, _, _, _, k3⟩
      · exact absurd rfl hne
theorem getA (w0 w : World) (Q : Nat) (h : KA w0 w Q) : Calls Tryz.prog 23 #[.pointer (some ⟨Q, 0, none⟩), .string ⟨#[97]⟩] w fun e w' => e = .returned (.tuple #[.agg #[.string ⟨#[97]⟩, .bool false, .string ⟨#[49]⟩, .int .i64 1], .bool true]) ∧ Hid (Below w0.heap.size w0 w') := by
  obtain ⟨g, B, D, m, M, N, S, cnt, y, k⟩ := h
  refine (get6 w0 g Q B D m M N S _ cnt 1 y [97] w k (by show 1 ≤ maxLen; unfold maxLen; omega)).mono ?_
  rintro e w' ⟨rfl, g', k', _⟩
  refine ⟨?_, k'.lw.below⟩
  rw [k_get.1, k_get.2]
  rfl
set_option maxHeartbeats 2000000 in
theorem awake6 (w0 : World) (g : Nat → Tg) (w : World) (hE : EnvS w0) (hL : LW w0 w g) :
    Calls Tryz.prog 10 #[] w fun e w' => e = .returned (.bool true) ∧ Hid (Below w0.heap.size w0 w') := by
  have HBG := hide (begun6 w0 g 1000 w hE hL (by omega) (by omega))
  have HEE := hide hE
  clear hE hL
  go_enter Tryz.func10, Tryz.ntmps10
  go_wp2_with fail
  refine (unhide HBG).mono ?_
  rintro e w1 ⟨D0, Q, rfl, HK⟩
  have HC := hide (commitA w0 w1 Q (unhide HEE) (unhide HK))
  clear HK HBG
  go_wp2_with fail
  refine (unhide HC).mono ?_
  rintro e w2 ⟨rfl, HK2⟩
  have HGT := hide (getA w0 w2 Q (unhide HK2))
  clear HK2 HC
  go_wp2_with fail
  refine (unhide HGT).mono ?_
  rintro e w3 ⟨rfl, HB3⟩
  clear HGT
  go_wp2_with fail
  go_ret
  exact ⟨rfl, (unhide HB3).alloc (unhide HB3).size _⟩
#print axioms awake6
end Go.Proofs.YtmcgghjeocnpnaaGreatDoor
end
section
set_option linter.unusedVariables false
set_option maxRecDepth 1000000
namespace Go.Proofs.YtmcgghjeocnpnaaGreatDoor
open Go.RowKit Go.Maps Go.MuLone

def ocC (x : Op6) : List Value := [.string (str x.k), .bool x.g, .string (str x.v)]
def ocs (l : List Op6) : List Value := l.flatMap ocC
theorem ocs_length (l : List Op6) : (ocs l).length = l.length * 3 := by
  induction l with
  | nil => rfl
  | cons a r ih =>
    show (ocC a ++ ocs r).length = (r.length + 1) * 3
    rw [List.length_append, ih]
    show 3 + r.length * 3 = _
    omega
theorem ocs_one (l : List Op6) : ∀ u ∈ ocs l, u.oneCell' = true := by
  intro u hu
  obtain ⟨x, _, hx⟩ := List.mem_flatMap.1 hu
  simp only [ocC, List.mem_cons, List.not_mem_nil, or_false] at hx
  rcases hx with rfl | rfl | rfl <;> rfl
theorem ocs_get : ∀ (l : List Op6) (i j : Nat) (t : Op6), l[i]? = some t → j < 3 → (ocs l)[i * 3 + j]? = (ocC t)[j]?
  | [], i, j, t, h, _ => by simp at h
  | a :: r, 0, j, t, h, hj => by
    obtain rfl : a = t := by simpa using h
    show (ocC a ++ ocs r)[0 * 3 + j]? = _
    rw [List.getElem?_append_left (by simp [ocC]; omega)]
    simp
  | a :: r, i + 1, j, t, h, hj => by
    show (ocC a ++ ocs r)[(i + 1) * 3 + j]? = _
    rw [List.getElem?_append_right (by simp [ocC]; omega)]
    have e : (i + 1) * 3 + j - (ocC a).length = i * 3 + j := by simp [ocC]; omega
    rw [e]
    exact ocs_get r i j t (by simpa using h) hj
theorem opR6_cells {w : World} {b off : Nat} {l : List Op6} (h : OpR6 w (some ⟨b, off, none⟩) l) : ∀ j u, (ocs l)[j]? = some u → w.cell? ⟨b, off + j, none⟩ = some u := by
  intro j u hu
  have hlen : j < l.length * 3 := by
    have := (List.getElem?_eq_some_iff.1 hu).1
    rw [ocs_length] at this
    omega
  have hi : j / 3 < l.length := by omega
  obtain ⟨b', off', e, hc⟩ := h.mem (by intro e; subst e; simp at hi)
  obtain ⟨rfl, rfl⟩ : b = b' ∧ off = off' := by simpa using e
  obtain ⟨c0, c1, c2⟩ := hc (j / 3) _ (List.getElem?_eq_getElem hi)
  have hj : j = j / 3 * 3 + j % 3 := by omega
  rw [hj, ocs_get l (j / 3) (j % 3) _ (List.getElem?_eq_getElem hi) (by omega)] at hu
  obtain ⟨q, hq⟩ : ∃ q, q = j % 3 := ⟨_, rfl⟩
  have hq3 : q < 3 := by omega
  rw [← hq] at hu
  match q, hq3 with
  | 0, _ =>
    cases hu
    rw [show (⟨b, off + j, none⟩ : Addr) = ⟨b, off + j / 3 * 3, none⟩ by congr 1; omega]
    exact c0
  | 1, _ =>
    cases hu
    rw [show (⟨b, off + j, none⟩ : Addr) = ⟨b, off + j / 3 * 3 + 1, none⟩ by congr 1; omega]
    exact c1
  | 2, _ =>
    cases hu
    rw [show (⟨b, off + j, none⟩ : Addr) = ⟨b, off + j / 3 * 3 + 2, none⟩ by congr 1; omega]
    exact c2
theorem Tryz.infoOp6 : (Tryz.prog.info? 55).map (fun i => (i.zero, i.size, i.bytes)) = some (some (.agg #[.string ByteArray.empty, .bool false, .string ByteArray.empty]), 3, 40) := by kernel_rfl
theorem ownO_empty (w : World) (base : Nat) (hb : base ≤ w.heap.size) : (w.alloc (.cells #[] 55)).ownsRow base 55 3 (.slice (some ⟨w.heap.size, 0, none⟩) 0 0) 0 [] :=
  World.ownsRow_made w #[] 0 hb (by unfold maxLen; omega) rfl
set_option maxHeartbeats 2000000 in
theorem clone6 (a : Option Addr) (cp : Nat) (l : List Op6) (w : World) (hr : OpR6 w a l) (hl : l.length * 40 ≤ 140737488355328) :
    Calls Tryz.prog 25 #[.slice a l.length cp] w fun e w' => ∃ v, e = .returned v ∧ Hid (Below w.heap.size w w') := by
  have hq := fun (wx : World) (a : Option Addr) (n c : Nat) => Lib.run_eql_slice_nil (P := Tryz.prog) wx 31 55 a n c 0 0 Tryz.underlying31
  cases a with
  | none =>
    have hl0 : l = [] := by
      apply Classical.byContradiction
      intro hne
      obtain ⟨b, off, hh, _⟩ := hr.mem hne
      cases hh
    subst hl0
    go_enter Tryz.func25, Tryz.ntmps25
    go_wp2
    go_ret
    exact ⟨_, rfl, Below.refl _ _⟩
  | some ad =>
    have HSR : Hid (∀ o j u, (ocs l)[j]? = some u → (w.alloc o).cell? (ad.add j) = some u) := fun o j u hu => by
      obtain ⟨b, off, hh, _⟩ := hr.mem (by intro e; subst e; simp [ocs] at hu)
      obtain rfl : ad = ⟨b, off, none⟩ := by simpa using hh
      rw [addr_add]
      exact Lib.cell?_alloc_some o (opR6_cells hr j u hu)
    obtain ⟨i, hi, hz0, hz1, hz2⟩ := info_parts Tryz.infoOp6
    clear hr
    go_enter Tryz.func25, Tryz.ntmps25
    go_wp2_with (at_builtin; refine wpList_append_own _ rfl _ _ 31 rfl w.heap.size 55 i (.agg #[.string ByteArray.empty, .bool false, .string ByteArray.empty]) 3 40 Tryz.underlying31 hi hz0 hz1 hz2 rfl (by decide) _ _ _ rfl (ownO_empty w _ (Nat.le_refl _)) ad l.length cp (ocs l) rfl (by rw [ocs_length]) (HSR.out _) (ocs_one l) ?k1 ?k2 ?k3 ?_)
    case k1 => unfold maxLen; omega
    case k2 => omega
    case k3 => simp
    intro v2 w2 ho2 hg2 _
    have HB : Hid (Below w.heap.size w w2) := below_grown (a := some ⟨w.heap.size, 0, none⟩) ((Below.refl _ _).alloc (Nat.le_refl _) _) hg2 (Nat.le_refl _) (fun k hk => by simp [blk] at hk; omega)
    clear ho2 hg2
    go_wp2
    go_ret
    exact ⟨_, rfl, HB⟩
#print axioms clone6
end Go.Proofs.YtmcgghjeocnpnaaGreatDoor
end
