/-
  kvstore's statements: begun; awake.; kvstore's statements: slices.Clone of ops.; kvstore's statements: KvstoreNobody.
-/
import Derived.Test.YtmcgghjeocnpnaaGreatDoorPkKodybf
import Derived.Lib.SmallJoins
section
set_option linter.unusedVariables false
set_option maxRecDepth 1000000
namespace Go.Proofs.YtmcgghjeocnpnaaGreatDoor
open Go.RowKit Go.Maps Go.MuLone

set_option maxHeartbeats 2000000 in
theorem begun6 (w0 : World) (g : Nat → Tg) (z : Int) (w : World) (hE : EnvS w0) (hL : LW w0 w g) (h0 : 0 ≤ z) (h1 : z ≤ 16777216) :
    Calls Tryz.prog 11 #[.int .i64 z] w fun e w' => ∃ D Q, e = .returned (.tuple #[.pointer (some ⟨D, 0, none⟩), .pointer (some ⟨Q, 0, none⟩), .bool true]) ∧ Hid (KS0 w0 w' Q z) := by
  have HNE := hide (new_k w0 g 0 z w h0 h1 hL)
  have HEE := hide hE
  clear hE hL
  go_enter Tryz.func11, Tryz.ntmps11
  go_wp2_with fail
  refine (unhide HNE).mono ?_
  rintro e w1 ⟨D, g1, rfl, hd1, hL1, _, _⟩
  have HOP := hide (open6 w0 g1 D z w1 (unhide HEE) hL1 hd1)
  clear HNE hd1 hL1
  go_wp2_with fail
  refine (unhide HOP).mono ?_
  rintro e w2 ⟨Q, rfl, HO⟩
  clear HOP
  go_wp2_with fail
  go_ret3
  exact ⟨D, Q, rfl, HO⟩
#print axioms begun6
theorem nmS_one6 : nmS 1 = [115, 101, 103, 46, 48, 48, 48, 48, 48, 48, 48, 48, 48, 48, 48, 48, 48, 48, 48, 48, 48, 48, 49] := by
  unfold nmS padS
  rw [Lib.decDigits_one (by omega)]
  rfl
theorem wf_nil6 : Wf [] := ⟨fun i a b ha hb => by simp at hb, fun a ha => (by cases ha), fun a ha => (by cases ha)⟩
def kO : List Op6 := [⟨[97], false, [49]⟩]
def kR : List UInt8 := cmB 1 (wrI kO 1)
theorem k_ck : ckE kO = 0 := by kernel_rfl
theorem k_len : kR.length ≤ 100 := by
  have h : decide (kR.length ≤ 100) = true := by kernel_rfl
  exact of_decide_eq_true h
theorem k_e : apE (Md.new 1000) [] kR = 0 := by
  unfold apE
  have k1 : ¬ nxS [] = 9223372036854775807 := by show ¬ 1 = 9223372036854775807; omega
  have k3 : (form (nxS []) ++ kR).length < 200 := by
    have h : decide ((form (nxS []) ++ kR).length < 200) = true := by kernel_rfl
    exact of_decide_eq_true h
  have k4 : ¬ 65536 < (form (nxS []) ++ kR).length := by omega
  rw [if_neg k1, if_neg k4]
  show (Md.new 1000).writeE (nmS 1) (frmN 1 kR).length = 0
  rw [nmS_one6]
  kernel_rfl
#print axioms k_e
theorem k_get : gtI (Its.put (fun _ => none) (wrI kO 1)) [97] = ⟨[97], false, [49], 1⟩ ∧ gtB (Its.put (fun _ => none) (wrI kO 1)) [97] = true := by
  have e : (Its.put (fun _ => none) (wrI kO 1)) [97] = some ⟨[97], false, [49], 1⟩ := by
    show upd (fun _ => none) [97] (some (⟨[97], false, [49], 1⟩ : Im)) [97] = _
    rw [upd_same]
  unfold gtI gtB
  rw [e]
  exact ⟨rfl, rfl⟩
/-- The store behind the one commit. -/
def KA (w0 w : World) (Q : Nat) : Prop := ∃ g B D m M N S cnt y, KS w0 w g Q B D m 0 M N S (Its.put (fun _ => none) (wrI kO 1)) cnt 1 y
theorem commitA (w0 w1 : World) (Q : Nat) (hE : EnvS w0) (h : KS0 w0 w1 Q 1000) : Calls Tryz.prog 14 #[.pointer (some ⟨Q, 0, none⟩), .slice (some ⟨w1.heap.size, 0, none⟩) 1 1] (w1.alloc (.cells #[.string ⟨#[97]⟩, .bool false, .string ⟨#[49]⟩] 55)) fun e w' => e = .returned (.tuple #[.int .i64 1, .int .i64 0]) ∧ Hid (KA w0 w' Q) := by
  obtain ⟨g1, B, D, m, k1⟩ := h
  obtain ⟨W, hW⟩ : ∃ W, W = w1.alloc (.cells #[.string ⟨#[97]⟩, .bool false, .string ⟨#[49]⟩] 55) := ⟨_, rfl⟩
  have hb : Below w1.heap.size w1 W := by rw [hW]; exact (Below.refl _ _).alloc (Nat.le_refl _) _
  have hr : W.heap[w1.heap.size]? = some (.cells #[.string ⟨#[97]⟩, .bool false, .string ⟨#[49]⟩] 55 (0, 0)) := by rw [hW]; exact heap_alloc_new _ _
  obtain ⟨g2, hg2⟩ : ∃ g2 : Nat → Tg, g2 = fun k => if k < w1.heap.size then g1 k else .o := ⟨_, rfl⟩
  have k2 : KS w0 W g2 Q B D m 0 (Md.new 1000) 302 [] (fun _ => none) 0 0 0 := k1.st ((St.ofBelow g1 _ hb).tag (fun k hk => by rw [hg2]; exact if_pos hk))
  have ho : OpR6 W (some ⟨w1.heap.size, 0, none⟩) kO := by
    refine ⟨fun _ => ⟨w1.heap.size, 0, rfl, fun t o hto => ?_⟩, by show 1 ≤ maxLen; unfold maxLen; omega, fun o ho => ?_⟩
    · match t, hto with
      | 0, hto =>
        obtain rfl : (⟨[97], false, [49]⟩ : Op6) = o := by simpa [kO] using hto
        exact ⟨cell_of_row _ _ _ _ _ _ hr, cell_of_row _ _ _ _ _ _ hr, cell_of_row _ _ _ _ _ _ hr⟩
      | t + 1, hto => simp [kO] at hto
    · obtain rfl : o = (⟨[97], false, [49]⟩ : Op6) := by simpa [kO] using ho
      exact ⟨by show 1 ≤ maxLen; unfold maxLen; omega, by show 1 ≤ maxLen; unfold maxLen; omega⟩
  rw [← hW]
  refine (commit6 w0 g2 Q B D m (Md.new 1000) 302 [] (fun _ => none) 0 0 0 (some ⟨w1.heap.size, 0, none⟩) 1 kO W hE k2 ho (fun k hk => ?_) sok_nil wf_nil6 (by omega) (by simp) (by simp) (by simp [bySz]) (fun _ => rfl) (by omega) (by omega) (Nat.le_trans k_len (by omega))).mono ?_
  · obtain rfl : w1.heap.size = k := by simpa [blk] using hk
    refine ⟨Nat.ne_of_gt k1.lt, Nat.ne_of_gt k1.im.lt, ?_⟩
    rw [hg2]
    simp only
    rw [if_neg (Nat.lt_irrefl _)]
    exact x01o
  · rintro e w' ⟨x, E, rfl, hc⟩
    rcases hc with ⟨hn, _⟩ | ⟨_, hE0, hrest⟩
    · exact absurd k_ck hn
    · have hE1 : E = 0 := hE0.trans k_e
      subst hE1
      rcases hrest with ⟨_, hx, g3, k3⟩ | ⟨hne, _⟩
      · refine ⟨by rw [hx]; rfl, g3, B, D, m, _, _, _, _, _, k3⟩
      · exact absurd rfl hne
theorem getA (w0 w : World) (Q : Nat) (h : KA w0 w Q) : Calls Tryz.prog 23 #[.pointer (some ⟨Q, 0, none⟩), .string ⟨#[97]⟩] w fun e w' => e = .returned (.tuple #[.agg #[.string ⟨#[97]⟩, .bool false, .string ⟨#[49]⟩, .int .i64 1], .bool true]) ∧ Hid (Below w0.heap.size w0 w') := by
  obtain ⟨g, B, D, m, M, N, S, cnt, y, k⟩ := h
  refine (get6 w0 g Q B D m M N S _ cnt 1 y [97] w k (by show 1 ≤ maxLen; unfold maxLen; omega)).mono ?_
  rintro e w' ⟨rfl, g', k'⟩
  refine ⟨?_, k'.lw.below⟩
  rw [k_get.1, k_get.2]
  rfl
set_option maxHeartbeats 2000000 in
theorem awake6 (w0 : World) (g : Nat → Tg) (w : World) (hE : EnvS w0) (hL : LW w0 w g) :
    Calls Tryz.prog 10 #[] w fun e w' => e = .returned (.bool true) ∧ Hid (Below w0.heap.size w0 w') := by
  have HBG := hide (begun6 w0 g 1000 w hE hL (by omega) (by omega))
  have HEE := hide hE
  clear hE hL
  go_enter Tryz.func10, Tryz.ntmps10
  go_wp2_with fail
  refine (unhide HBG).mono ?_
  rintro e w1 ⟨D0, Q, rfl, HK⟩
  have HC := hide (commitA w0 w1 Q (unhide HEE) (unhide HK))
  clear HK HBG
  go_wp2_with fail
  refine (unhide HC).mono ?_
  rintro e w2 ⟨rfl, HK2⟩
  have HGT := hide (getA w0 w2 Q (unhide HK2))
  clear HK2 HC
  go_wp2_with fail
  refine (unhide HGT).mono ?_
  rintro e w3 ⟨rfl, HB3⟩
  clear HGT
  go_wp2_with fail
  go_ret
  exact ⟨rfl, (unhide HB3).alloc (unhide HB3).size _⟩
#print axioms awake6
end Go.Proofs.YtmcgghjeocnpnaaGreatDoor
end
section
set_option linter.unusedVariables false
set_option maxRecDepth 1000000
namespace Go.Proofs.YtmcgghjeocnpnaaGreatDoor
open Go.RowKit Go.Maps Go.MuLone

def ocC (x : Op6) : List Value := [.string (str x.k), .bool x.g, .string (str x.v)]
def ocs (l : List Op6) : List Value := l.flatMap ocC
theorem ocs_length (l : List Op6) : (ocs l).length = l.length * 3 := by
  induction l with
  | nil => rfl
  | cons a r ih =>
    show (ocC a ++ ocs r).length = (r.length + 1) * 3
    rw [List.length_append, ih]
    show 3 + r.length * 3 = _
    omega
theorem ocs_one (l : List Op6) : ∀ u ∈ ocs l, u.oneCell' = true := by
  intro u hu
  obtain ⟨x, _, hx⟩ := List.mem_flatMap.1 hu
  simp only [ocC, List.mem_cons, List.not_mem_nil, or_false] at hx
  rcases hx with rfl | rfl | rfl <;> rfl
theorem ocs_get : ∀ (l : List Op6) (i j : Nat) (t : Op6), l[i]? = some t → j < 3 → (ocs l)[i * 3 + j]? = (ocC t)[j]?
  | [], i, j, t, h, _ => by simp at h
  | a :: r, 0, j, t, h, hj => by
    obtain rfl : a = t := by simpa using h
    show (ocC a ++ ocs r)[0 * 3 + j]? = _
    rw [List.getElem?_append_left (by simp [ocC]; omega)]
    simp
  | a :: r, i + 1, j, t, h, hj => by
    show (ocC a ++ ocs r)[(i + 1) * 3 + j]? = _
    rw [List.getElem?_append_right (by simp [ocC]; omega)]
    have e : (i + 1) * 3 + j - (ocC a).length = i * 3 + j := by simp [ocC]; omega
    rw [e]
    exact ocs_get r i j t (by simpa using h) hj
theorem opR6_cells {w : World} {b off : Nat} {l : List Op6} (h : OpR6 w (some ⟨b, off, none⟩) l) : ∀ j u, (ocs l)[j]? = some u → w.cell? ⟨b, off + j, none⟩ = some u := by
  intro j u hu
  have hlen : j < l.length * 3 := by
    have := (List.getElem?_eq_some_iff.1 hu).1
    rw [ocs_length] at this
    omega
  have hi : j / 3 < l.length := by omega
  obtain ⟨b', off', e, hc⟩ := h.mem (by intro e; subst e; simp at hi)
  obtain ⟨rfl, rfl⟩ : b = b' ∧ off = off' := by simpa using e
  obtain ⟨c0, c1, c2⟩ := hc (j / 3) _ (List.getElem?_eq_getElem hi)
  have hj : j = j / 3 * 3 + j % 3 := by omega
  rw [hj, ocs_get l (j / 3) (j % 3) _ (List.getElem?_eq_getElem hi) (by omega)] at hu
  obtain ⟨q, hq⟩ : ∃ q, q = j % 3 := ⟨_, rfl⟩
  have hq3 : q < 3 := by omega
  rw [← hq] at hu
  match q, hq3 with
  | 0, _ =>
    cases hu
    rw [show (⟨b, off + j, none⟩ : Addr) = ⟨b, off + j / 3 * 3, none⟩ by congr 1; omega]
    exact c0
  | 1, _ =>
    cases hu
    rw [show (⟨b, off + j, none⟩ : Addr) = ⟨b, off + j / 3 * 3 + 1, none⟩ by congr 1; omega]
    exact c1
  | 2, _ =>
    cases hu
    rw [show (⟨b, off + j, none⟩ : Addr) = ⟨b, off + j / 3 * 3 + 2, none⟩ by congr 1; omega]
    exact c2
theorem Tryz.infoOp6 : (Tryz.prog.info? 55).map (fun i => (i.zero, i.size, i.bytes)) = some (some (.agg #[.string ByteArray.empty, .bool false, .string ByteArray.empty]), 3, 40) := by kernel_rfl
theorem ownO_empty (w : World) (base : Nat) (hb : base ≤ w.heap.size) : (w.alloc (.cells #[] 55)).ownsRow base 55 3 (.slice (some ⟨w.heap.size, 0, none⟩) 0 0) 0 [] :=
  World.ownsRow_made w #[] 0 hb (by unfold maxLen; omega) rfl
set_option maxHeartbeats 2000000 in
theorem clone6 (a : Option Addr) (cp : Nat) (l : List Op6) (w : World) (hr : OpR6 w a l) (hl : l.length * 40 ≤ 140737488355328) :
    Calls Tryz.prog 25 #[.slice a l.length cp] w fun e w' => ∃ v, e = .returned v ∧ Hid (Below w.heap.size w w') := by
  have hq := fun (wx : World) (a : Option Addr) (n c : Nat) => Lib.run_eql_slice_nil (P := Tryz.prog) wx 31 55 a n c 0 0 Tryz.underlying31
  cases a with
  | none =>
    have hl0 : l = [] := by
      apply Classical.byContradiction
      intro hne
      obtain ⟨b, off, hh, _⟩ := hr.mem hne
      cases hh
    subst hl0
    go_enter Tryz.func25, Tryz.ntmps25
    go_wp2
    go_ret
    exact ⟨_, rfl, Below.refl _ _⟩
  | some ad =>
    have HSR : Hid (∀ o j u, (ocs l)[j]? = some u → (w.alloc o).cell? (ad.add j) = some u) := fun o j u hu => by
      obtain ⟨b, off, hh, _⟩ := hr.mem (by intro e; subst e; simp [ocs] at hu)
      obtain rfl : ad = ⟨b, off, none⟩ := by simpa using hh
      rw [addr_add]
      exact Lib.cell?_alloc_some o (opR6_cells hr j u hu)
    obtain ⟨i, hi, hz0, hz1, hz2⟩ := info_parts Tryz.infoOp6
    clear hr
    go_enter Tryz.func25, Tryz.ntmps25
    go_wp2_with (at_builtin; refine wpList_append_own _ rfl _ _ 31 rfl w.heap.size 55 i (.agg #[.string ByteArray.empty, .bool false, .string ByteArray.empty]) 3 40 Tryz.underlying31 hi hz0 hz1 hz2 rfl (by decide) _ _ _ rfl (ownO_empty w _ (Nat.le_refl _)) ad l.length cp (ocs l) rfl (by rw [ocs_length]) (HSR.out _) (ocs_one l) ?k1 ?k2 ?k3 ?_)
    case k1 => unfold maxLen; omega
    case k2 => omega
    case k3 => simp
    intro v2 w2 ho2 hg2 _
    have HB : Hid (Below w.heap.size w w2) := below_grown (a := some ⟨w.heap.size, 0, none⟩) ((Below.refl _ _).alloc (Nat.le_refl _) _) hg2 (Nat.le_refl _) (fun k hk => by simp [blk] at hk; omega)
    clear ho2 hg2
    go_wp2
    go_ret
    exact ⟨_, rfl, HB⟩
#print axioms clone6
end Go.Proofs.YtmcgghjeocnpnaaGreatDoor
end
section
set_option linter.unusedVariables false
set_option maxRecDepth 1000000
namespace Go.Proofs.YtmcgghjeocnpnaaGreatDoor
open Go.RowKit Go.Maps Go.MuLone

set_option maxHeartbeats 8000000 in
theorem nobody6 (w : World) (hE : EnvS w) (a1 : Option Addr) (c1 : Nat) (b : List Op6) (key : ByteArray) (h1 : OpR6 w a1 b) (hl : b.length * 40 ≤ 140737488355328) :
    Calls Tryz.prog 8 #[.slice a1 b.length c1, .string key] w fun e w' => e = .returned (.bool true) ∧ Hid (Below w.heap.size w w') := by
  obtain ⟨o, ho⟩ : ∃ o, o = Obj.cells #[.pointer none, .int .i32 0, .int .u32 0, .map none, .int .i64 0, .int .i64 0] 71 := ⟨_, rfl⟩
  obtain ⟨X, hX⟩ : ∃ X, X = (w.alloc o).alloc (.cells #[.pointer none, .pointer (some ⟨w.heap.size, 0, none⟩)] 27) := ⟨_, rfl⟩
  have hs2 : (w.alloc o).heap.size = w.heap.size + 1 := Array.size_push _
  have hbX : Below w.heap.size w X := by rw [hX]; exact ((Below.refl _ _).alloc (Nat.le_refl _) _).alloc (by omega) _
  have hvX : X.heap[w.heap.size + 1]? = some (.cells #[.pointer none, .pointer (some ⟨w.heap.size, 0, none⟩)] 27 (0, 0)) := by rw [hX, ← hs2]; exact heap_alloc_new _ _
  have hrX : X.heap[w.heap.size]? = some (.cells #[.pointer none, .int .i32 0, .int .u32 0, .map none, .int .i64 0, .int .i64 0] 71 (0, 0)) := by rw [hX, Below.heap_alloc _ _ _ (by omega), ho]; exact heap_alloc_new w _
  have HEX := hide hE
  have HBX : Hid (Below w.heap.size w X) := hbX
  have HCL : Hid (∀ u, Below X.heap.size X u → Calls Tryz.prog 25 #[.slice a1 b.length c1] u fun e w' => ∃ v, e = .returned v ∧ Hid (Below u.heap.size u w')) := fun u hu => clone6 a1 c1 b u (h1.below (hbX.trans (hu.mono hbX.size)) (Nat.le_refl _)) hl
  have HEL : Hid (∀ k : Nat, k < 2 → ∃ v, X.cell? ⟨w.heap.size + 1, k, none⟩ = some v ∧ UnS X v) := fun k hk => by
    match k, hk with
    | 0, _ => exact ⟨_, cell_of_row _ _ _ _ _ _ hvX, .inl rfl⟩
    | 1, _ => exact ⟨_, cell_of_row _ _ _ _ _ _ hvX, .inr ⟨_, rfl, cell_of_row _ _ _ _ _ _ hrX⟩⟩
  rw [ho] at hX
  clear hE h1 ho o hs2 hbX hvX hrX
  go_enter Tryz.func8, Tryz.ntmps8
  go_wp2_with fail
  rw [← hX]
  clear hX
  refine wp_loop_rounds 3 ?_
  rw [rounds_succ]
  obtain ⟨v0, hc0, hu0⟩ := unhide HEL 0 (by omega)
  have HUN := hide hu0
  have HBP : Hid (Below X.heap.size X X) := Below.refl _ _
  have hd0 : X.cell? ⟨w.heap.size + 1, 0, none⟩ = some v0 := by rw [(unhide HBP).cell (World.block_lt_of_cell? X _ hc0)]; exact hc0
  clear hc0 hu0
  go_wp2_with fail
  refine (unhide HCL _ (unhide HBP)).mono ?_
  rintro e C0 ⟨z0, rfl, HZ⟩
  have HP : Hid (Below X.heap.size X C0) := (unhide HBP).trans ((unhide HZ).mono (unhide HBP).size)
  have HUW := hide ((unhide HUN).below (unhide HP) (Nat.le_refl _))
  clear HZ hd0 HBP
  go_wp2_with fail
  refine (commitS v0 z0 C0 (unhide HUW)).mono ?_
  rintro e w' ⟨rfl, hw1⟩
  have hw2 := hw1.symm
  subst hw2
  clear hw1
  go_wp2_with fail
  refine (getS v0 (.string key) C0 (unhide HUW)).mono ?_
  rintro e G0 ⟨rfl, HZ⟩
  clear HUW
  obtain ⟨V0, hV0⟩ : ∃ V, V = G0.alloc (.cells #[.string ⟨#[]⟩, .bool false, .string ⟨#[]⟩, .int .i64 0] 47) := ⟨_, rfl⟩
  have HPV : Hid (Below X.heap.size X V0) := by
    have h1 : Below X.heap.size X G0 := (unhide HP).trans ((unhide HZ).mono (unhide HP).size)
    show Below _ _ _
    rw [hV0]
    exact h1.alloc h1.size _
  have hrV0 : V0.heap[G0.heap.size]? = some (.cells #[.string ⟨#[]⟩, .bool false, .string ⟨#[]⟩, .int .i64 0] 47 (0, 0)) := by rw [hV0]; exact heap_alloc_new _ _
  have i0 : V0.cell? ⟨G0.heap.size, 0, none⟩ = some (.string ⟨#[]⟩) := cell_of_row _ _ _ _ _ _ hrV0
  have i1 : V0.cell? ⟨G0.heap.size, 1, none⟩ = some (.bool false) := cell_of_row _ _ _ _ _ _ hrV0
  have i2 : V0.cell? ⟨G0.heap.size, 2, none⟩ = some (.string ⟨#[]⟩) := cell_of_row _ _ _ _ _ _ hrV0
  have i3 : V0.cell? ⟨G0.heap.size, 3, none⟩ = some (.int .i64 0) := cell_of_row _ _ _ _ _ _ hrV0
  have HUW := hide ((unhide HUN).below (unhide HPV) (Nat.le_refl _))
  clear HZ HP hrV0
  go_wp2_with fail
  rw [← hV0]
  clear hV0
  refine (syncS v0 V0 (unhide HUW)).mono ?_
  rintro e w' ⟨rfl, hw1⟩
  have hw2 := hw1.symm
  subst hw2
  clear hw1
  go_wp2_with fail
  refine (compactS v0 V0 (unhide HUW)).mono ?_
  rintro e w' ⟨rfl, hw1⟩
  have hw2 := hw1.symm
  subst hw2
  clear hw1
  go_wp2_with fail
  refine (versionS v0 V0 (unhide HUW)).mono ?_
  rintro e w' ⟨rfl, hw1⟩
  have hw2 := hw1.symm
  subst hw2
  clear hw1
  go_wp2_with fail
  refine (syncedS v0 V0 (unhide HUW)).mono ?_
  rintro e w' ⟨rfl, hw1⟩
  have hw2 := hw1.symm
  subst hw2
  clear hw1
  go_wp2_with fail
  refine (bytesS v0 V0 (unhide HUW)).mono ?_
  rintro e w' ⟨rfl, hw1⟩
  have hw2 := hw1.symm
  subst hw2
  clear hw1
  go_wp2_with fail
  refine (scanS v0 ⟨#[]⟩ ⟨#[]⟩ V0 (unhide HUW)).mono ?_
  rintro e S0 ⟨rfl, HZ⟩
  have HPS : Hid (Below X.heap.size X S0) := (unhide HPV).trans ((unhide HZ).mono (unhide HPV).size)
  clear HUW HZ HPV i0 i1 i2 i3
  have HUW := hide ((unhide HUN).below (unhide HPS) (Nat.le_refl _))
  go_wp2_with fail
  refine (sinceS v0 0 S0 (unhide HUW)).mono ?_
  rintro e Y0 ⟨rfl, HZ⟩
  have HT0 : Hid (Below X.heap.size X Y0) := (unhide HPS).trans ((unhide HZ).mono (unhide HPS).size)
  clear HUW HZ HPS HUN
  go_wp2_with fail
  rw [rounds_succ]
  obtain ⟨v1, hc1, hu1⟩ := unhide HEL 1 (by omega)
  have HUN := hide hu1
  have HBP : Hid (Below X.heap.size X Y0) := unhide HT0
  have hd1 : Y0.cell? ⟨w.heap.size + 1, 1, none⟩ = some v1 := by rw [(unhide HBP).cell (World.block_lt_of_cell? X _ hc1)]; exact hc1
  clear hc1 hu1
  go_wp2_with fail
  refine (unhide HCL _ (unhide HBP)).mono ?_
  rintro e C1 ⟨z1, rfl, HZ⟩
  have HP : Hid (Below X.heap.size X C1) := (unhide HBP).trans ((unhide HZ).mono (unhide HBP).size)
  have HUW := hide ((unhide HUN).below (unhide HP) (Nat.le_refl _))
  clear HZ hd1 HBP
  go_wp2_with fail
  refine (commitS v1 z1 C1 (unhide HUW)).mono ?_
  rintro e w' ⟨rfl, hw1⟩
  have hw2 := hw1.symm
  subst hw2
  clear hw1
  go_wp2_with fail
  refine (getS v1 (.string key) C1 (unhide HUW)).mono ?_
  rintro e G1 ⟨rfl, HZ⟩
  clear HUW
  obtain ⟨V1, hV1⟩ : ∃ V, V = G1.alloc (.cells #[.string ⟨#[]⟩, .bool false, .string ⟨#[]⟩, .int .i64 0] 47) := ⟨_, rfl⟩
  have HPV : Hid (Below X.heap.size X V1) := by
    have h1 : Below X.heap.size X G1 := (unhide HP).trans ((unhide HZ).mono (unhide HP).size)
    show Below _ _ _
    rw [hV1]
    exact h1.alloc h1.size _
  have hrV1 : V1.heap[G1.heap.size]? = some (.cells #[.string ⟨#[]⟩, .bool false, .string ⟨#[]⟩, .int .i64 0] 47 (0, 0)) := by rw [hV1]; exact heap_alloc_new _ _
  have i0 : V1.cell? ⟨G1.heap.size, 0, none⟩ = some (.string ⟨#[]⟩) := cell_of_row _ _ _ _ _ _ hrV1
  have i1 : V1.cell? ⟨G1.heap.size, 1, none⟩ = some (.bool false) := cell_of_row _ _ _ _ _ _ hrV1
  have i2 : V1.cell? ⟨G1.heap.size, 2, none⟩ = some (.string ⟨#[]⟩) := cell_of_row _ _ _ _ _ _ hrV1
  have i3 : V1.cell? ⟨G1.heap.size, 3, none⟩ = some (.int .i64 0) := cell_of_row _ _ _ _ _ _ hrV1
  have HUW := hide ((unhide HUN).below (unhide HPV) (Nat.le_refl _))
  clear HZ HP hrV1
  go_wp2_with fail
  rw [← hV1]
  clear hV1
  refine (syncS v1 V1 (unhide HUW)).mono ?_
  rintro e w' ⟨rfl, hw1⟩
  have hw2 := hw1.symm
  subst hw2
  clear hw1
  go_wp2_with fail
  refine (compactS v1 V1 (unhide HUW)).mono ?_
  rintro e w' ⟨rfl, hw1⟩
  have hw2 := hw1.symm
  subst hw2
  clear hw1
  go_wp2_with fail
  refine (versionS v1 V1 (unhide HUW)).mono ?_
  rintro e w' ⟨rfl, hw1⟩
  have hw2 := hw1.symm
  subst hw2
  clear hw1
  go_wp2_with fail
  refine (syncedS v1 V1 (unhide HUW)).mono ?_
  rintro e w' ⟨rfl, hw1⟩
  have hw2 := hw1.symm
  subst hw2
  clear hw1
  go_wp2_with fail
  refine (bytesS v1 V1 (unhide HUW)).mono ?_
  rintro e w' ⟨rfl, hw1⟩
  have hw2 := hw1.symm
  subst hw2
  clear hw1
  go_wp2_with fail
  refine (scanS v1 ⟨#[]⟩ ⟨#[]⟩ V1 (unhide HUW)).mono ?_
  rintro e S1 ⟨rfl, HZ⟩
  have HPS : Hid (Below X.heap.size X S1) := (unhide HPV).trans ((unhide HZ).mono (unhide HPV).size)
  clear HUW HZ HPV i0 i1 i2 i3
  have HUW := hide ((unhide HUN).below (unhide HPS) (Nat.le_refl _))
  go_wp2_with fail
  refine (sinceS v1 0 S1 (unhide HUW)).mono ?_
  rintro e Y1 ⟨rfl, HZ⟩
  have HT1 : Hid (Below X.heap.size X Y1) := (unhide HPS).trans ((unhide HZ).mono (unhide HPS).size)
  clear HUW HZ HPS HUN
  go_wp2_with fail
  rw [rounds_succ]
  have HBW : Hid (Below w.heap.size w Y1) := (unhide HBX).trans ((unhide HT1).mono (unhide HBX).size)
  obtain ⟨o, ho⟩ : ∃ o, o = Obj.cells #[.int .i64 0, .map none, .map none, .slice none 0 0, .map none, .int .i64 0] 79 := ⟨_, rfl⟩
  obtain ⟨Y, hY⟩ : ∃ Y, Y = (Y1.alloc o).alloc (.cells #[.pointer none, .pointer (some ⟨Y1.heap.size, 0, none⟩)] 26) := ⟨_, rfl⟩
  have hs2 : (Y1.alloc o).heap.size = Y1.heap.size + 1 := Array.size_push _
  have hbY : Below Y1.heap.size Y1 Y := by rw [hY]; exact ((Below.refl _ _).alloc (Nat.le_refl _) _).alloc (by omega) _
  have hvY : Y.heap[Y1.heap.size + 1]? = some (.cells #[.pointer none, .pointer (some ⟨Y1.heap.size, 0, none⟩)] 26 (0, 0)) := by rw [hY, ← hs2]; exact heap_alloc_new _ _
  have hrY : Y.heap[Y1.heap.size]? = some (.cells #[.int .i64 0, .map none, .map none, .slice none 0 0, .map none, .int .i64 0] 79 (0, 0)) := by rw [hY, Below.heap_alloc _ _ _ (by omega), ho]; exact heap_alloc_new Y1 _
  have HBY : Hid (Below w.heap.size w Y) := (unhide HBW).trans (hbY.mono (unhide HBW).size)
  have HEM : Hid (∀ k : Nat, k < 2 → ∃ p, Y.cell? ⟨Y1.heap.size + 1, k, none⟩ = some (.pointer p) ∧ NoDisk Y p) := fun k hk => by
    match k, hk with
    | 0, _ => exact ⟨_, cell_of_row _ _ _ _ _ _ hvY, .inl rfl⟩
    | 1, _ => exact ⟨_, cell_of_row _ _ _ _ _ _ hvY, .inr ⟨_, rfl, cell_of_row _ _ _ _ _ _ hrY⟩⟩
  rw [ho] at hY
  clear ho o hs2 hbY hvY hrY HEL HBX HCL HT0 HT1 HBW
  go_wp2_with fail
  rw [← hY]
  clear hY
  refine wp_loop_rounds 3 ?_
  rw [rounds_succ]
  obtain ⟨p0, hc0, hu0⟩ := unhide HEM 0 (by omega)
  have HBP : Hid (Below Y.heap.size Y Y) := Below.refl _ _
  have hd0 : Y.cell? ⟨Y1.heap.size + 1, 0, none⟩ = some (.pointer p0) := by rw [(unhide HBP).cell (World.block_lt_of_cell? Y _ hc0)]; exact hc0
  have HO := hide (openN6 p0 Y (hu0.below5 (unhide HBP) (Nat.le_refl _)))
  clear hc0 hu0
  go_wp2_with fail
  refine (unhide HO).mono ?_
  rintro e Z0 ⟨rfl, HZ⟩
  have HQ0 : Hid (Below Y.heap.size Y Z0) := (unhide HBP).trans ((unhide HZ).mono (unhide HBP).size)
  clear HO HZ hd0 HBP
  go_wp2_with fail
  rw [rounds_succ]
  obtain ⟨p1, hc1, hu1⟩ := unhide HEM 1 (by omega)
  have HBP : Hid (Below Y.heap.size Y Z0) := unhide HQ0
  have hd1 : Z0.cell? ⟨Y1.heap.size + 1, 1, none⟩ = some (.pointer p1) := by rw [(unhide HBP).cell (World.block_lt_of_cell? Y _ hc1)]; exact hc1
  have HO := hide (openN6 p1 Z0 (hu1.below5 (unhide HBP) (Nat.le_refl _)))
  clear hc1 hu1
  go_wp2_with fail
  refine (unhide HO).mono ?_
  rintro e Z1 ⟨rfl, HZ⟩
  have HQ1 : Hid (Below Y.heap.size Y Z1) := (unhide HBP).trans ((unhide HZ).mono (unhide HBP).size)
  clear HO HZ hd1 HBP
  go_wp2_with fail
  rw [rounds_succ]
  have HAW := hide (awake6 w (fun _ => .o) Z1 (unhide HEX) ⟨(unhide HBY).trans ((unhide HQ1).mono (unhide HBY).size), fun _ _ => rfl⟩)
  go_wp2_with fail
  refine (unhide HAW).mono ?_
  rintro e V2 ⟨rfl, HB2⟩
  go_wp2_with fail
  go_ret
  exact ⟨rfl, HB2⟩
theorem kvstoreNobody_walk (a0 : Option Addr) (c0 : Nat) (l0 : List Op6) (key : ByteArray) (w : World) (h0 : OpR6 w a0 l0) (hl : l0.length * 40 ≤ 140737488355328) (hE : EnvS w) :
    Calls Tryz.prog 8 #[.slice a0 l0.length c0, .string key] w fun e w' => e = .returned (.bool true) ∧ Below w.heap.size w w' :=
  (nobody6 w hE a0 c0 l0 key h0 hl).mono fun e w' q => ⟨q.1, q.2⟩
#print axioms kvstoreNobody_walk
end Go.Proofs.YtmcgghjeocnpnaaGreatDoor
end
