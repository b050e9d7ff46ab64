/-
  THE WALK of the reference's Mac.
-/
import Derived.Test.YthhcaalafacjlaaDoorPkAadsaz
import Derived.Test.YthhcaalafacjlaaDoorPkAadsar
section
set_option linter.unusedVariables false
namespace Go.Proofs.YthhcaalafacjlaaDoor
open Go.RowKit

theorem pk_succk (key : List UInt8) (x : UInt8) (i : Nat) (hi : i < 64) : pk key x i ++ [(kblk key).getD i 0 ^^^ x] = pk key x (i + 1) := by
  unfold pk
  rw [List.take_add_one, List.map_append]
  have : i < (kblk key).length := by rw [kblk_length key]; exact hi
  simp [this]
theorem pk_lengthk (key : List UInt8) (x : UInt8) (i : Nat) (hi : i ≤ 64) : (pk key x i).length = i := by
  simp [pk, kblk_length key]; omega
theorem pk_allk (key : List UInt8) (x : UInt8) : pk key x 64 = (kblk key).map (· ^^^ x) := by
  unfold pk
  rw [List.take_of_length_le (by rw [kblk_length key]; exact Nat.le_refl _)]
/-- A short key's beginning of the block. -/
theorem kblk_of (key k0 : List UInt8) (h : k0 = if 64 < key.length then sha2 key else key) (h2 : k0.length ≤ 64) : k0 ++ noughts (64 - k0.length) = kblk key := by
  subst h
  unfold kblk
  congr 1
  unfold noughts
  rw [List.drop_replicate]
theorem own_some {w : World} {base : Nat} {a : Option Addr} {cap : Nat} {r : List UInt8} (h : OwnB w base a cap r) (hr : 0 < r.length) : ∃ g, a = some ⟨g, 0, none⟩ ∧ base ≤ g ∧ g < w.heap.size ∧ ∀ i, i < r.length → w.cell? ⟨g, i, none⟩ = some (.int .u8 ((r.getD i 0).toNat : Int)) := by
  obtain ⟨g, e, h1, h2, h3, _⟩ := h.some (by omega)
  exact ⟨g, e, h1, h2, h3⟩

set_option maxRecDepth 1000000 in
set_option maxHeartbeats 8000000 in
theorem rmac_any (ak : Option Addr) (ck : Nat) (key : List UInt8) (a1 : Option Addr) (cap1 : Nat) (l : List UInt8) (w : World) (hK : Bs w ak ck key) (hB : Bs w a1 cap1 l) (hkl : key.length ≤ 20000) (hl : l.length ≤ 20000) :
    Calls Tryd.prog 44 #[.slice ak key.length ck, .slice a1 l.length cap1] w fun e w' => ∃ a' cap' r, e = .returned (.slice a' r.length cap') ∧ Hid (r = mac key l) ∧ Hid (Bs w' a' cap' r) ∧ Hid (Below w.heap.size w w') := by
  have HK := hide hK
  have H1 := hide hB
  clear hK hB
  by_cases hlong : 64 < key.length
  · have hlI : (64 : Int) < (key.length : Int) := by omega
    go_enter Tryd.func44, Tryd.ntmps44
    go_wp2_with (at_builtin; refine wp_app _ rfl _ _ rfl w.heap.size (some ⟨w.heap.size, 0, none⟩) 0 [] rfl (own_empty w _ (Nat.le_refl _)) ak ck key _ rfl rfl (HK.out.row.alloc _) HK.out.nz ?c3x1 ?c4x2 ?_)
    try (case c3x1 => first | omega | (simp; omega))
    try (case c4x2 => first | omega | simp)
    intro a2 cap2 r2 w2 hr2 ho2 hg2
    have HB2 := hide (below_grown (a := some ⟨w.heap.size, 0, none⟩) ((Below.refl _ _).alloc (Nat.le_refl _) _) hg2 (Nat.le_refl _) (fun k hk => by simp [blk] at hk; omega))
    have HO2 := hide ho2.toBs
    obtain rfl : key = r2 := by simpa using hr2.out.symm
    clear hr2 hg2 ho2
    go_wp2_with fail
    refine (rsha2_any a2 cap2 key w2 HO2.out (by omega)).mono ?_
    rintro e w3 ⟨a3, cap3, k0, rfl, hd, ho3, hb3⟩
    have hk0 : k0.length ≤ 64 := by rw [hd.out, sha2_length]; omega
    have HK0 : Hid (k0 = if 64 < key.length then sha2 key else key) := by show _ = _; rw [if_pos hlong]; exact hd.out
    have HO3 : Hid (OwnB w3 w.heap.size a3 cap3 k0) := ho3.out.base HB2.out.size
    have HB3 : Hid (Below w.heap.size w w3) := HB2.out.trans (hb3.out.mono HB2.out.size)
    clear hd ho3 hb3 HO2 HB2 hlong hlI
    go_wp2
    go_loopw [5] (fun v wr => ∃ (m : Nat) (a' : Option Addr) (cap' : Nat) (r : List UInt8), m ≤ 64 - k0.length ∧ v = .slice a' r.length cap' ∧ Hid (r = k0 ++ noughts m) ∧ Hid (OwnB wr w.heap.size a' cap' r) ∧ Hid (Below w.heap.size w wr)) (fun v _ => 64 - slen v)
    case atStart => exact ⟨0, _, _, k0, Nat.zero_le _, rfl, (by show _ = _; simp [noughts]), HO3, HB3⟩
    case round =>
      clear HO3 HB3
      obtain ⟨m, a', cap', r, hm, rfl, HR, ho, hb⟩ := hrel
      have HRL : Hid (r.length = k0.length + m) := by show _ = _; rw [HR.out]; simp [noughts]
      have hrl2 : r.length ≤ 64 := by have := HRL.out; omega
      have hsz := hb.out.size
      by_cases hmK : r.length < 64
      · go_wp2_with (at_builtin; refine wp_app _ rfl _ _ rfl w.heap.size a' cap' r rfl (ho.out.alloc _) (some ⟨wr.heap.size, 0, none⟩) 1 [0] 1 rfl rfl (row_lit _ _ _ rfl) (fun h => by cases h) ?c5x3 ?c6x4 ?_)
        case c5x3 => simp; omega
        case c6x4 => first | omega | (simp; omega)
        intro a3 cap3 r3 w3 hr3 ho3 hg3
        have hb3 : Hid (Below w.heap.size w w3) := below_grown (hb.out.alloc hb.out.size _) hg3 (Nat.le_refl _) (fun k hk => (ho.out.lt k hk).1)
        have HR3 : Hid (r3 = k0 ++ noughts (m + 1)) := by
          show _ = _
          rw [hr3.out, HR.out]
          show k0 ++ List.replicate m 0 ++ [0] = k0 ++ List.replicate (m + 1) 0
          rw [List.replicate_succ']
          simp
        have hl3 : Hid (r3.length = k0.length + (m + 1)) := by show _ = _; rw [HR3.out]; simp [noughts]
        have HO3 := hide ho3
        clear hr3 hg3 ho hb ho3
        go_wp2
        go_roundw
        case rel => exact ⟨m + 1, a3, cap3, r3, by have := HRL.out; omega, rfl, HR3, HO3, hb3⟩
        case measure => have := hl3.out; have := HRL.out; simp only [slen]; omega
      · have HKB : Hid (r = kblk key) := by
          show _ = _
          have e : m = 64 - k0.length := by have := HRL.out; omega
          rw [HR.out, e]
          exact kblk_of key k0 HK0.out hk0
        have hr64 : 64 ≤ r.length := by omega
        obtain ⟨gk, rfl, hgk1, hgk2, hck⟩ : ∃ g, a' = some ⟨g, 0, none⟩ ∧ w.heap.size ≤ g ∧ g < wr.heap.size ∧ ∀ i, i < r.length → wr.cell? ⟨g, i, none⟩ = some (.int .u8 ((r.getD i 0).toNat : Int)) := own_some ho.out (by omega)
        have HCK := hide hck
        generalize hv : wr = v at *
        clear hck HR hv ho
        go_wp2
        go_loopw [6, 7, 26] (fun vi vo vt wr => ∃ (i : Nat) (ai : Option Addr) (ci : Nat) (ri : List UInt8) (ao : Option Addr) (co : Nat) (ro : List UInt8), i ≤ 64 ∧ vt = .int .i64 (i : Int) ∧ vi = .slice ai ri.length ci ∧ vo = .slice ao ro.length co ∧ Hid (ri = pk key 54 i) ∧ Hid (ro = pk key 92 i) ∧ Hid (Two wr v.heap.size ai ci ri ao co ro) ∧ Hid (Below v.heap.size v wr)) (fun _ _ vt _ => 64 - (intOf vt).toNat)
        case atStart => exact ⟨0, none, 0, [], none, 0, [], Nat.zero_le _, rfl, rfl, rfl, rfl, rfl, ⟨OwnB.nil _ _, OwnB.nil _ _, .inl rfl, .inl rfl⟩, Below.refl _ _⟩
        case round =>
          obtain ⟨i, ai, ci, ri, ao, co, ro, hi, rfl, rfl, rfl, hri, hro, htw, hbv⟩ := hrel
          have hli : ri.length ≤ 64 := by rw [hri.out, pk_lengthk key 54 i hi]; exact hi
          have hlo : ro.length ≤ 64 := by rw [hro.out, pk_lengthk key 92 i hi]; exact hi
          have hszv := hbv.out.size
          by_cases hlt : i < 64
          · have HS1 := hide (pk_succk key 54 i hlt)
            have HS2 := hide (pk_succk key 92 i hlt)
            have k0' := HCK.out i (by omega)
            rw [← hbv.out.cell hgk2, HKB.out] at k0'
            generalize (kblk key).getD i 0 = y at *
            have x1 := u8x y 54
            have x2 := u8x y 92
            rw [show ((54 : UInt8).toNat : Int) = 54 from rfl] at x1
            rw [show ((92 : UInt8).toNat : Int) = 92 from rfl] at x2
            generalize y ^^^ 54 = z1 at *
            generalize y ^^^ 92 = z2 at *
            have hi3 : (i : Int) < (r.length : Int) := by omega
            go_wp2_with (at_builtin; refine wp_app2 _ rfl _ _ rfl v.heap.size ai ci ri rfl (htw.out.1.alloc _) (some ⟨wr.heap.size, 0, none⟩) 1 [z1] 1 rfl rfl (row_lit _ _ _ rfl) (fun h => by cases h) ?g1x5 ?g2x6 ?_)
            case g1x5 => first | omega | (simp; omega)
            case g2x6 => first | omega | (simp; omega)
            intro a2 cap2 r2 w2 hr2 ho2 hg2 hw2
            have HT2 := hide (Two.one htw.out _ ho2 hg2 hw2.out)
            have HB2 := hide (below_grown (hbv.out.alloc hbv.out.size _) hg2 (Nat.le_refl _) (fun k hk => (htw.out.1.lt k hk).1))
            have HR2 : Hid (r2 = pk key 54 (i + 1)) := by show _ = _; rw [hr2.out, hri.out]; exact HS1.out
            have hsz2 := HB2.out.size
            clear ho2 hg2 hw2 hr2
            go_wp2_with (at_builtin; refine wp_app2 _ rfl _ _ rfl v.heap.size ao co ro rfl (HT2.out.2.1.alloc _) (some ⟨w2.heap.size, 0, none⟩) 1 [z2] 1 rfl rfl (row_lit _ _ _ rfl) (fun h => by cases h) ?d1x7 ?d2x8 ?_)
            case d1x7 => first | omega | (simp; omega)
            case d2x8 => first | omega | (simp; omega)
            intro a3 cap3 r3 w3 hr3 ho3 hg3 hw3
            have HT3 := hide (Two.one HT2.out.swap _ ho3 hg3 hw3.out).swap
            have HB3 := hide (below_grown (HB2.out.alloc HB2.out.size _) hg3 (Nat.le_refl _) (fun k hk => (HT2.out.2.1.lt k hk).1))
            have HR3 : Hid (r3 = pk key 92 (i + 1)) := by show _ = _; rw [hr3.out, hro.out]; exact HS2.out
            clear ho3 hg3 hw3 hr3
            go_wp2
            go_roundw
            case rel => exact ⟨i + 1, a2, cap2, r2, a3, cap3, r3, by omega, by go_num, rfl, rfl, HR2, HR3, HT3, HB3⟩
            case measure => simp [intOf]; omega
          · obtain rfl : i = 64 := by omega
            rw [pk_allk key 54] at hri
            rw [pk_allk key 92] at hro
            have HMA : Hid (sha2 (ro ++ sha2 (ri ++ l)) = mac key l) := by show _ = _; rw [hri.out, hro.out]; rfl
            have HBw : Hid (Below w.heap.size w wr) := hb.out.trans (hbv.out.mono hb.out.size)
            have HVS : Hid (w.heap.size ≤ v.heap.size) := hb.out.size
            clear hri hro HCK HKB
            have hge : ¬ (64 : Int) < (r.length : Int) := by omega
            go_wp2_with (at_builtin; refine wp_app2 _ rfl _ _ rfl v.heap.size ai ci ri rfl htw.out.1 a1 cap1 l _ rfl rfl (H1.out.row.below HBw.out (Nat.le_refl _)) H1.out.nz ?g1x9 ?g2x10 ?_)
            try (case g1x9 => omega)
            try (case g2x10 => omega)
            intro a2 cap2 r2 w2 hr2 ho2 hg2 hw2
            have HO2 := hide ho2
            have HOo : Hid (OwnB w2 v.heap.size ao co ro) := htw.out.2.1.kept hg2 htw.out.2.2.2
            have HB2 : Hid (Below w.heap.size w w2) := below_grown HBw.out hg2 (Nat.le_refl _) (fun k hk => Nat.le_trans HVS.out (htw.out.1.lt k hk).1)
            have HVS2 : Hid (v.heap.size ≤ w2.heap.size) := Nat.le_trans hszv hg2.size
            have HR2 := hide hr2.out
            clear ho2 hg2 hw2 hr2 htw hbv HBw hb hszv hsz
            go_wp2_with fail
            refine (rsha2_any a2 cap2 r2 w2 HO2.out.toBs (by rw [HR2.out, List.length_append]; omega)).mono ?_
            rintro e w3 ⟨a3, cap3, d, rfl, hd, ho3, hb3⟩
            have HD : Hid (d = sha2 (ri ++ l)) := by show _ = _; rw [hd.out, HR2.out]
            have hdl : d.length ≤ 32 := by rw [hd.out, sha2_length]; exact Nat.le_refl _
            have HO3 := hide ho3.out.toBs
            have HOo3 := hide (HOo.out.below hb3.out (Nat.le_refl _))
            have HB3 : Hid (Below w.heap.size w w3) := HB2.out.trans (hb3.out.mono HB2.out.size)
            have hs4 : v.heap.size ≤ w3.heap.size := Nat.le_trans HVS2.out hb3.out.size
            clear hd ho3 hb3 HO2 HOo HB2 HR2 HVS2
            go_wp2_with (at_builtin; refine wp_app2 _ rfl _ _ rfl v.heap.size ao co ro rfl HOo3.out a3 cap3 d _ rfl rfl HO3.out.row HO3.out.nz ?g1x11 ?g2x12 ?_)
            try (case g1x11 => omega)
            try (case g2x12 => omega)
            intro a4 cap4 r4 w4 hr4 ho4 hg4 hw4
            have HO4 := hide ho4.toBs
            have HB4 : Hid (Below w.heap.size w w4) := below_grown HB3.out hg4 (Nat.le_refl _) (fun k hk => Nat.le_trans HVS.out (HOo3.out.lt k hk).1)
            have HR4 := hide hr4.out
            clear ho4 hg4 hw4 hr4 HO3 HOo3 HB3 hs4
            go_wp2_with fail
            refine (rsha2_any a4 cap4 r4 w4 HO4.out (by rw [HR4.out, List.length_append]; omega)).mono ?_
            rintro e w5 ⟨a5, cap5, r5, rfl, hd5, ho5, hb5⟩
            go_wp2
            go_ret
            exact ⟨a5, cap5, r5, rfl, (by show _ = _; rw [hd5.out, HR4.out, HD.out]; exact HMA.out), ho5.out.toBs, HB4.out.trans (hb5.out.mono HB4.out.size)⟩
  · have hlI : ¬ (64 : Int) < (key.length : Int) := by omega
    go_enter Tryd.func44, Tryd.ntmps44
    go_wp2_with (at_builtin; refine wp_app _ rfl _ _ rfl w.heap.size (some ⟨w.heap.size, 0, none⟩) 0 [] rfl (own_empty w _ (Nat.le_refl _)) ak ck key _ rfl rfl (HK.out.row.alloc _) HK.out.nz ?c3x13 ?c4x14 ?_)
    try (case c3x13 => first | omega | (simp; omega))
    try (case c4x14 => first | omega | simp)
    intro a2 cap2 k0 w2 hr2 ho2 hg2
    have HB3 := hide (below_grown (a := some ⟨w.heap.size, 0, none⟩) ((Below.refl _ _).alloc (Nat.le_refl _) _) hg2 (Nat.le_refl _) (fun k hk => by simp [blk] at hk; omega))
    have HO3 := hide ho2
    have e0 : k0 = key := by simpa using hr2.out
    have hlk : ¬ 64 < k0.length := by rw [e0]; exact hlong
    have hlkI : ¬ (64 : Int) < (k0.length : Int) := by omega
    have hk0 : k0.length ≤ 64 := by omega
    have HK0 : Hid (k0 = if 64 < key.length then sha2 key else key) := by show _ = _; rw [if_neg hlong]; exact e0
    clear hr2 hg2 ho2 e0 hlong hlI hlk
    go_wp2
    go_loopw [5] (fun v wr => ∃ (m : Nat) (a' : Option Addr) (cap' : Nat) (r : List UInt8), m ≤ 64 - k0.length ∧ v = .slice a' r.length cap' ∧ Hid (r = k0 ++ noughts m) ∧ Hid (OwnB wr w.heap.size a' cap' r) ∧ Hid (Below w.heap.size w wr)) (fun v _ => 64 - slen v)
    case atStart => exact ⟨0, _, _, k0, Nat.zero_le _, rfl, (by show _ = _; simp [noughts]), HO3, HB3⟩
    case round =>
      clear HO3 HB3
      obtain ⟨m, a', cap', r, hm, rfl, HR, ho, hb⟩ := hrel
      have HRL : Hid (r.length = k0.length + m) := by show _ = _; rw [HR.out]; simp [noughts]
      have hrl2 : r.length ≤ 64 := by have := HRL.out; omega
      have hsz := hb.out.size
      by_cases hmK : r.length < 64
      · go_wp2_with (at_builtin; refine wp_app _ rfl _ _ rfl w.heap.size a' cap' r rfl (ho.out.alloc _) (some ⟨wr.heap.size, 0, none⟩) 1 [0] 1 rfl rfl (row_lit _ _ _ rfl) (fun h => by cases h) ?c5x15 ?c6x16 ?_)
        case c5x15 => simp; omega
        case c6x16 => first | omega | (simp; omega)
        intro a3 cap3 r3 w3 hr3 ho3 hg3
        have hb3 : Hid (Below w.heap.size w w3) := below_grown (hb.out.alloc hb.out.size _) hg3 (Nat.le_refl _) (fun k hk => (ho.out.lt k hk).1)
        have HR3 : Hid (r3 = k0 ++ noughts (m + 1)) := by
          show _ = _
          rw [hr3.out, HR.out]
          show k0 ++ List.replicate m 0 ++ [0] = k0 ++ List.replicate (m + 1) 0
          rw [List.replicate_succ']
          simp
        have hl3 : Hid (r3.length = k0.length + (m + 1)) := by show _ = _; rw [HR3.out]; simp [noughts]
        have HO3 := hide ho3
        clear hr3 hg3 ho hb ho3
        go_wp2
        go_roundw
        case rel => exact ⟨m + 1, a3, cap3, r3, by have := HRL.out; omega, rfl, HR3, HO3, hb3⟩
        case measure => have := hl3.out; have := HRL.out; simp only [slen]; omega
      · have HKB : Hid (r = kblk key) := by
          show _ = _
          have e : m = 64 - k0.length := by have := HRL.out; omega
          rw [HR.out, e]
          exact kblk_of key k0 HK0.out hk0
        have hr64 : 64 ≤ r.length := by omega
        obtain ⟨gk, rfl, hgk1, hgk2, hck⟩ : ∃ g, a' = some ⟨g, 0, none⟩ ∧ w.heap.size ≤ g ∧ g < wr.heap.size ∧ ∀ i, i < r.length → wr.cell? ⟨g, i, none⟩ = some (.int .u8 ((r.getD i 0).toNat : Int)) := own_some ho.out (by omega)
        have HCK := hide hck
        generalize hv : wr = v at *
        clear hck HR hv ho
        go_wp2
        go_loopw [6, 7, 26] (fun vi vo vt wr => ∃ (i : Nat) (ai : Option Addr) (ci : Nat) (ri : List UInt8) (ao : Option Addr) (co : Nat) (ro : List UInt8), i ≤ 64 ∧ vt = .int .i64 (i : Int) ∧ vi = .slice ai ri.length ci ∧ vo = .slice ao ro.length co ∧ Hid (ri = pk key 54 i) ∧ Hid (ro = pk key 92 i) ∧ Hid (Two wr v.heap.size ai ci ri ao co ro) ∧ Hid (Below v.heap.size v wr)) (fun _ _ vt _ => 64 - (intOf vt).toNat)
        case atStart => exact ⟨0, none, 0, [], none, 0, [], Nat.zero_le _, rfl, rfl, rfl, rfl, rfl, ⟨OwnB.nil _ _, OwnB.nil _ _, .inl rfl, .inl rfl⟩, Below.refl _ _⟩
        case round =>
          obtain ⟨i, ai, ci, ri, ao, co, ro, hi, rfl, rfl, rfl, hri, hro, htw, hbv⟩ := hrel
          have hli : ri.length ≤ 64 := by rw [hri.out, pk_lengthk key 54 i hi]; exact hi
          have hlo : ro.length ≤ 64 := by rw [hro.out, pk_lengthk key 92 i hi]; exact hi
          have hszv := hbv.out.size
          by_cases hlt : i < 64
          · have HS1 := hide (pk_succk key 54 i hlt)
            have HS2 := hide (pk_succk key 92 i hlt)
            have k0' := HCK.out i (by omega)
            rw [← hbv.out.cell hgk2, HKB.out] at k0'
            generalize (kblk key).getD i 0 = y at *
            have x1 := u8x y 54
            have x2 := u8x y 92
            rw [show ((54 : UInt8).toNat : Int) = 54 from rfl] at x1
            rw [show ((92 : UInt8).toNat : Int) = 92 from rfl] at x2
            generalize y ^^^ 54 = z1 at *
            generalize y ^^^ 92 = z2 at *
            have hi3 : (i : Int) < (r.length : Int) := by omega
            go_wp2_with (at_builtin; refine wp_app2 _ rfl _ _ rfl v.heap.size ai ci ri rfl (htw.out.1.alloc _) (some ⟨wr.heap.size, 0, none⟩) 1 [z1] 1 rfl rfl (row_lit _ _ _ rfl) (fun h => by cases h) ?g1x17 ?g2x18 ?_)
            case g1x17 => first | omega | (simp; omega)
            case g2x18 => first | omega | (simp; omega)
            intro a2 cap2 r2 w2 hr2 ho2 hg2 hw2
            have HT2 := hide (Two.one htw.out _ ho2 hg2 hw2.out)
            have HB2 := hide (below_grown (hbv.out.alloc hbv.out.size _) hg2 (Nat.le_refl _) (fun k hk => (htw.out.1.lt k hk).1))
            have HR2 : Hid (r2 = pk key 54 (i + 1)) := by show _ = _; rw [hr2.out, hri.out]; exact HS1.out
            have hsz2 := HB2.out.size
            clear ho2 hg2 hw2 hr2
            go_wp2_with (at_builtin; refine wp_app2 _ rfl _ _ rfl v.heap.size ao co ro rfl (HT2.out.2.1.alloc _) (some ⟨w2.heap.size, 0, none⟩) 1 [z2] 1 rfl rfl (row_lit _ _ _ rfl) (fun h => by cases h) ?d1x19 ?d2x20 ?_)
            case d1x19 => first | omega | (simp; omega)
            case d2x20 => first | omega | (simp; omega)
            intro a3 cap3 r3 w3 hr3 ho3 hg3 hw3
            have HT3 := hide (Two.one HT2.out.swap _ ho3 hg3 hw3.out).swap
            have HB3 := hide (below_grown (HB2.out.alloc HB2.out.size _) hg3 (Nat.le_refl _) (fun k hk => (HT2.out.2.1.lt k hk).1))
            have HR3 : Hid (r3 = pk key 92 (i + 1)) := by show _ = _; rw [hr3.out, hro.out]; exact HS2.out
            clear ho3 hg3 hw3 hr3
            go_wp2
            go_roundw
            case rel => exact ⟨i + 1, a2, cap2, r2, a3, cap3, r3, by omega, by go_num, rfl, rfl, HR2, HR3, HT3, HB3⟩
            case measure => simp [intOf]; omega
          · obtain rfl : i = 64 := by omega
            rw [pk_allk key 54] at hri
            rw [pk_allk key 92] at hro
            have HMA : Hid (sha2 (ro ++ sha2 (ri ++ l)) = mac key l) := by show _ = _; rw [hri.out, hro.out]; rfl
            have HBw : Hid (Below w.heap.size w wr) := hb.out.trans (hbv.out.mono hb.out.size)
            have HVS : Hid (w.heap.size ≤ v.heap.size) := hb.out.size
            clear hri hro HCK HKB
            have hge : ¬ (64 : Int) < (r.length : Int) := by omega
            go_wp2_with (at_builtin; refine wp_app2 _ rfl _ _ rfl v.heap.size ai ci ri rfl htw.out.1 a1 cap1 l _ rfl rfl (H1.out.row.below HBw.out (Nat.le_refl _)) H1.out.nz ?g1x21 ?g2x22 ?_)
            try (case g1x21 => omega)
            try (case g2x22 => omega)
            intro a2 cap2 r2 w2 hr2 ho2 hg2 hw2
            have HO2 := hide ho2
            have HOo : Hid (OwnB w2 v.heap.size ao co ro) := htw.out.2.1.kept hg2 htw.out.2.2.2
            have HB2 : Hid (Below w.heap.size w w2) := below_grown HBw.out hg2 (Nat.le_refl _) (fun k hk => Nat.le_trans HVS.out (htw.out.1.lt k hk).1)
            have HVS2 : Hid (v.heap.size ≤ w2.heap.size) := Nat.le_trans hszv hg2.size
            have HR2 := hide hr2.out
            clear ho2 hg2 hw2 hr2 htw hbv HBw hb hszv hsz
            go_wp2_with fail
            refine (rsha2_any a2 cap2 r2 w2 HO2.out.toBs (by rw [HR2.out, List.length_append]; omega)).mono ?_
            rintro e w3 ⟨a3, cap3, d, rfl, hd, ho3, hb3⟩
            have HD : Hid (d = sha2 (ri ++ l)) := by show _ = _; rw [hd.out, HR2.out]
            have hdl : d.length ≤ 32 := by rw [hd.out, sha2_length]; exact Nat.le_refl _
            have HO3 := hide ho3.out.toBs
            have HOo3 := hide (HOo.out.below hb3.out (Nat.le_refl _))
            have HB3 : Hid (Below w.heap.size w w3) := HB2.out.trans (hb3.out.mono HB2.out.size)
            have hs4 : v.heap.size ≤ w3.heap.size := Nat.le_trans HVS2.out hb3.out.size
            clear hd ho3 hb3 HO2 HOo HB2 HR2 HVS2
            go_wp2_with (at_builtin; refine wp_app2 _ rfl _ _ rfl v.heap.size ao co ro rfl HOo3.out a3 cap3 d _ rfl rfl HO3.out.row HO3.out.nz ?g1x23 ?g2x24 ?_)
            try (case g1x23 => omega)
            try (case g2x24 => omega)
            intro a4 cap4 r4 w4 hr4 ho4 hg4 hw4
            have HO4 := hide ho4.toBs
            have HB4 : Hid (Below w.heap.size w w4) := below_grown HB3.out hg4 (Nat.le_refl _) (fun k hk => Nat.le_trans HVS.out (HOo3.out.lt k hk).1)
            have HR4 := hide hr4.out
            clear ho4 hg4 hw4 hr4 HO3 HOo3 HB3 hs4
            go_wp2_with fail
            refine (rsha2_any a4 cap4 r4 w4 HO4.out (by rw [HR4.out, List.length_append]; omega)).mono ?_
            rintro e w5 ⟨a5, cap5, r5, rfl, hd5, ho5, hb5⟩
            go_wp2
            go_ret
            exact ⟨a5, cap5, r5, rfl, (by show _ = _; rw [hd5.out, HR4.out, HD.out]; exact HMA.out), ho5.out.toBs, HB4.out.trans (hb5.out.mono HB4.out.size)⟩
#print axioms rmac_any
end Go.Proofs.YthhcaalafacjlaaDoor
end
