/-
  THE WALK of the reference's Sha1.
-/
import Derived.Test.YtegbcjfceooflaaDoorPkWptsbf
import Derived.Deep.RegionWith
import Derived.BigRegion
import Derived.Deep.AppendLies
import Derived.Deep.RegionLaw
section
set_option linter.unusedVariables false
namespace Go.Proofs.YtegbcjfceooflaaDoor
open Go.RowKit

/-- A state behind so many blocks. -/
def st1 (LL : List (List UInt8)) (J : Nat) : S5 := (LL.take J).foldl beh1 ini1
theorem st1_succ (LL : List (List UInt8)) (J : Nat) (m : List UInt8) (h : LL[J]? = some m) : st1 LL (J + 1) = beh1 (st1 LL J) m := by
  unfold st1
  rw [List.take_add_one, h]
  simp
theorem st1_all (LL : List (List UInt8)) : st1 LL LL.length = LL.foldl beh1 ini1 := by unfold st1; rw [List.take_length]
theorem empty_w (w : World) (base : Nat) (hb : base ≤ w.heap.size) : OwnW (w.alloc (.cells #[] 69)) base (some ⟨w.heap.size, 0, none⟩) 0 [] := ownW_lit w base [] hb (by simp) #[] rfl

/-- append(s, word), s the call's own, as a step of a region that draws its order. -/
theorem stp_appw (w : World) {ops : Array Oper} {o : Oper} {a : Act} {K : Act → World → Prop} {Q : Exit → Act → World → Prop} {E : Prop} (hgd : o.guard = none) (s x : Operand)
    (ho : o.op = .call { callee := .builtin .append, args := #[s, x], argTypes := #[78, 78] })
    (base : Nat) (a1 : Option Addr) (cap1 : Nat) (l1 : List UInt32) (hs : a.eval s = .slice a1 l1.length cap1) (hown : OwnW w base a1 cap1 l1)
    (b c2 : Nat) (t : UInt32) (hx : a.eval x = .slice (some ⟨b, 0, none⟩) 1 c2) (hsrc : RowW w b [t]) (hlen : l1.length ≤ 1000000) (hbase : base ≤ w.heap.size)
    (h : ∀ g cap r w', Hid (r = l1 ++ [t]) → Hid (OwnW w' base (some ⟨g, 0, none⟩) cap r) → Hid (w.grownBy w' (blk a1)) → K (a.put o.dst (.slice (some ⟨g, 0, none⟩) r.length cap)) w') :
    if Region.wanted o (yielded ops a.tmps) = true then Oper.wp Tryd.prog o a w K Q else E := by
  obtain ⟨i, hi, hz0, hz1, hz2⟩ := info_parts Tryd.infoW
  have hblk : (Value.slice a1 l1.length cap1).ownBlock = blk a1 := by cases a1 <;> rfl
  refine step_append_lies w hgd s x 78 ho base 69 i (.int .u32 0) 1 4 Tryd.underlying78 hi hz0 hz1 hz2 rfl (by decide) _ _ _ hs hown ⟨b, 0, none⟩ 1 c2 (us [t]) hx (by simp [us_length]) ?_ (us_one' [t]) (by decide) (by unfold maxLen; omega) (by omega) hbase _ rfl ?_
  · intro j u hu
    have hj : j < 1 := by
      have := (List.getElem?_eq_some_iff.1 hu).1
      simpa [us_length] using this
    rw [us_get [t] j hj] at hu
    obtain rfl := Option.some.inj hu
    rw [addr_add, Nat.zero_add]
    exact hsrc j hj
  · intro g cap w' h1 h2 _ _
    have e1 : l1.length + 1 = (l1 ++ [t]).length := by simp
    have e2 : us l1 ++ us [t] = us (l1 ++ [t]) := by simp [us]
    rw [e1, e2] at h1
    rw [hblk] at h2
    rw [e1]
    exact h g cap (l1 ++ [t]) w' rfl h1 h2

set_option maxRecDepth 1000000 in
set_option maxHeartbeats 8000000 in
theorem rsha1_any (a : Option Addr) (cap : Nat) (l : List UInt8) (w : World) (hB : Bs w a cap l) (hl : l.length ≤ 100000) :
    Calls Tryd.prog 21 #[.slice a l.length cap] w fun e w' => ∃ a' cap' r, e = .returned (.slice a' r.length cap') ∧ Hid (r = sha1 l) ∧ Hid (OwnB w' w.heap.size a' cap' r) ∧ Hid (Below w.heap.size w w') := by
  have HB := hide hB
  clear hB
  go_enter Tryd.func21, Tryd.ntmps21
  go_wp2_with fail
  refine (blocks_any a cap l _ (HB.out.alloc _) hl).mono ?_
  rintro e w1 ⟨g, n, c, rfl, HN, HWK, HB1, hn⟩
  have HW0 : Hid (OwnW w1 w.heap.size (some ⟨w.heap.size, 0, none⟩) 5 ini1.list) := (ownW_lit w w.heap.size ini1.list (Nat.le_refl _) (by decide) _ rfl).below HB1.out (Nat.le_refl _)
  have HBW : Hid (Below w.heap.size w w1) := ((Below.refl _ _).alloc (Nat.le_refl _) _).trans (HB1.out.mono (by simp))
  clear HB1
  have HSH : Hid (sha1 l = byts ((blks (l.length * 8) l).foldl beh1 ini1).list) := by
    show _ = _
    unfold sha1 fin1
    rw [Nat.zero_add]
  have HEA := hide (blks_each _ (l.length * 8) l (Nat.le_refl _))
  generalize blks (l.length * 8) l = LL at *
  go_wp2
  go_loopw [3, 21] (fun vh v wr => ∃ (J G : Nat), J ≤ n ∧ v = .int .i64 (J : Int) ∧ vh = .slice (some ⟨G, 0, none⟩) 5 5 ∧ Hid (OwnW wr w.heap.size (some ⟨G, 0, none⟩) 5 (st1 LL J).list) ∧ Hid (Wks wr g LL) ∧ Hid (Below w.heap.size w wr)) (fun _ v _ => n - (intOf v).toNat)
  case atStart => exact ⟨0, w.heap.size, Nat.zero_le _, rfl, rfl, HW0, HWK, HBW⟩
  case round =>
    clear HW0 HWK HBW
    obtain ⟨J, G, hJ, rfl, rfl, HH, HWK, HBW⟩ := hrel
    obtain ⟨u, rfl⟩ : ∃ u, u = wr := ⟨wr, rfl⟩
    by_cases hlt : J < n
    · have hlt2 : (J : Int) < (n : Int) := by omega
      obtain ⟨m, hm⟩ : ∃ m, LL[J]? = some m := ⟨LL[J]'(by have := HN.out; omega), by rw [List.getElem?_eq_getElem]⟩
      obtain ⟨b, cb, cJ, hrow⟩ := HWK.out J m hm
      have HROW := hide hrow
      have HS1 := hide (st1_succ LL J m hm)
      have hsz := HBW.out.size
      clear hm hrow
      go_wp2_with (at_builtin; refine wp_appw _ rfl _ _ rfl u.heap.size (some ⟨u.heap.size, 0, none⟩) 0 [] rfl (empty_w u _ (Nat.le_refl _)) b 16 cb (wrd m 16) rfl (wrd_length m 16).symm (HROW.out.below ((Below.refl _ _).alloc (Nat.le_refl _) _) ?c0) ?c1 ?c2 ?_)
      case c0 => exact World.block_lt_of_cell? u _ (HROW.out 0 (by rw [wrd_length]; decide))
      case c1 => rw [wrd_length]; simp
      case c2 => simp
      intro a2 c2 r2 w2 hr2 ho2 hg2
      have HR2 : Hid (r2 = sch1 m 16) := by show _ = _; rw [hr2.out, wrd_sch1 m 16 (Nat.le_refl _)]
      have HB2 : Hid (Below u.heap.size u w2) := below_grown (a := some ⟨u.heap.size, 0, none⟩) ((Below.refl _ _).alloc (Nat.le_refl _) _) hg2 (Nat.le_refl _) (fun k hk => by simp [blk] at hk; omega)
      have HO2 := hide ho2
      clear hr2 hg2 ho2
      go_wp2
      go_loopw [6, 7] (fun vw v wx => ∃ (K : Nat) (aw : Option Addr) (cw : Nat) (r : List UInt32), 16 ≤ K ∧ K ≤ 80 ∧ v = .int .i64 (K : Int) ∧ vw = .slice aw r.length cw ∧ Hid (r = sch1 m K) ∧ Hid (OwnW wx u.heap.size aw cw r) ∧ Hid (Below u.heap.size u wx)) (fun _ v _ => 80 - (intOf v).toNat)
      case atStart => exact ⟨16, a2, c2, r2, by omega, by omega, rfl, rfl, HR2, HO2, HB2⟩
      case round =>
        clear HR2 HO2 HB2
        obtain ⟨K, aw, cw, r, hK1, hK2, rfl, rfl, HR, HO, HBX⟩ := hrel
        have HRL : Hid (r.length = K) := by show _ = _; rw [HR.out, sch1_length]
        by_cases hlt : K < 80
        · obtain ⟨gw, rfl, hgw1, hgw2, _, hcw⟩ := HO.out.some (by have := HRL.out; omega)
          obtain ⟨P3, hP3⟩ : ∃ P, P + 3 = K := ⟨K - 3, by omega⟩
          obtain ⟨P8, hP8⟩ : ∃ P, P + 8 = K := ⟨K - 8, by omega⟩
          obtain ⟨P14, hP14⟩ : ∃ P, P + 14 = K := ⟨K - 14, by omega⟩
          obtain ⟨P16, hP16⟩ : ∃ P, P + 16 = K := ⟨K - 16, by omega⟩
          have hrl1 : r.length ≤ 80 := by have := HRL.out; omega
          have c3 := hcw P3 (by have := HRL.out; omega)
          have c8 := hcw P8 (by have := HRL.out; omega)
          have c14 := hcw P14 (by have := HRL.out; omega)
          have c16 := hcw P16 (by have := HRL.out; omega)
          have b3 : (0 : Int) ≤ (P3 : Int) ∧ (P3 : Int) < (r.length : Int) := by have := HRL.out; omega
          have b8 : (0 : Int) ≤ (P8 : Int) ∧ (P8 : Int) < (r.length : Int) := by have := HRL.out; omega
          have b14 : (0 : Int) ≤ (P14 : Int) ∧ (P14 : Int) < (r.length : Int) := by have := HRL.out; omega
          have b16 : (0 : Int) ≤ (P16 : Int) ∧ (P16 : Int) < (r.length : Int) := by have := HRL.out; omega
          have q3 : IntKind.i64.wrap ((K : Int) - 3) = (P3 : Int) := by rw [IntKind.wrap_i64]; omega
          have q8 : IntKind.i64.wrap ((K : Int) - 8) = (P8 : Int) := by rw [IntKind.wrap_i64]; omega
          have q14 : IntKind.i64.wrap ((K : Int) - 14) = (P14 : Int) := by rw [IntKind.wrap_i64]; omega
          have q16 : IntKind.i64.wrap ((K : Int) - 16) = (P16 : Int) := by rw [IntKind.wrap_i64]; omega
          have HNX : Hid (r ++ [rotr (r.getD P3 0 ^^^ r.getD P8 0 ^^^ r.getD P14 0 ^^^ r.getD P16 0) 31] = sch1 m (K + 1)) := by
            show _ = _
            have e3 : K - 3 = P3 := by omega
            have e8 : K - 8 = P8 := by omega
            have e14 : K - 14 = P14 := by omega
            have e16 : K - 16 = P16 := by omega
            rw [HR.out]
            show _ = sch1 m K ++ [nxt1 m (sch1 m K) K]
            rw [nxt1, if_neg (by omega), e3, e8, e14, e16]
            rfl
          generalize r.getD P3 0 = x3 at *
          generalize r.getD P8 0 = x8 at *
          generalize r.getD P14 0 = x14 at *
          generalize r.getD P16 0 = x16 at *
          have hX : bits .xor .u32 (bits .xor .u32 (bits .xor .u32 (x3.toNat : Int) (x8.toNat : Int)) (x14.toNat : Int)) (x16.toNat : Int) = ((x3 ^^^ x8 ^^^ x14 ^^^ x16).toNat : Int) := by
            rw [u_xor, u_xor, u_xor]
          generalize x3 ^^^ x8 ^^^ x14 ^^^ x16 = xx at *
          clear hP3 hP8 hP14 hP16 hcw
          go_wp2
          go_region_law (first
            | (refine stp_appw _ rfl _ _ rfl u.heap.size (some ⟨gw, 0, none⟩) cw r rfl (HO.out.alloc _) _ 1 (rotr xx 31) rfl (rowW_lit _ _ _ rfl) (by omega) (by have := HBX.out.size; simp; omega) ?_; intro g5 c5 r5 w5 hr5 ho5 hg5)
            | (go_simp; go_at_call 45; refine (right_any xx 31 _ (by omega) (by omega)).mono ?_; rintro e w' ⟨rfl, nq, rfl⟩))
          all_goals
            have HR5 : Hid (r5 = sch1 m (K + 1)) := by show _ = _; rw [hr5.out]; exact HNX.out
            have HB5 : Hid (Below u.heap.size u w5) := below_grown (a := some ⟨gw, 0, none⟩) ((bdrewN HBX.out (1 + nq)).alloc HBX.out.size _) hg5.out (Nat.le_refl _) (fun k hk => by simp [blk] at hk; omega)
            clear hr5 hg5 HR HNX HO HBX c3 c8 c14 c16
            go_wp2
            go_roundw
            case rel => exact ⟨K + 1, some ⟨g5, 0, none⟩, c5, r5, by omega, by omega, by go_num, rfl, HR5, ho5, HB5⟩
            case measure => simp [intOf]; omega
        · obtain rfl : K = 80 := by omega
          obtain ⟨v, rfl⟩ : ∃ v, v = wr := ⟨wr, rfl⟩
          obtain ⟨gw, rfl, hgw1, hgw2, _, hcw⟩ := HO.out.some (by have := HRL.out; omega)
          have HCW : Hid (RowW v gw r) := hcw
          have hrl1 : 80 ≤ r.length := by have := HRL.out; omega
          have hrl2 : r.length ≤ 80 := by have := HRL.out; omega
          clear hcw HO
          obtain ⟨S, hS⟩ : ∃ S, S = st1 LL J := ⟨_, rfl⟩
          rw [← hS] at HS1 HH
          have HHv := hide (HH.out.below HBX.out (Nat.le_refl _))
          clear hS HH
          obtain ⟨G', e', hG1, hG2, _, hcG⟩ := HHv.out.some (by rw [listS5]; decide)
          obtain rfl : G = G' := by simpa using Option.some.inj e'
          have h0 : v.cell? ⟨G, 0, none⟩ = some (.int .u32 (S.a.toNat : Int)) := hcG 0 (by rw [listS5]; decide)
          have h1 : v.cell? ⟨G, 1, none⟩ = some (.int .u32 (S.b.toNat : Int)) := hcG 1 (by rw [listS5]; decide)
          have h2 : v.cell? ⟨G, 2, none⟩ = some (.int .u32 (S.c.toNat : Int)) := hcG 2 (by rw [listS5]; decide)
          have h3 : v.cell? ⟨G, 3, none⟩ = some (.int .u32 (S.d.toNat : Int)) := hcG 3 (by rw [listS5]; decide)
          have h4 : v.cell? ⟨G, 4, none⟩ = some (.int .u32 (S.e.toNat : Int)) := hcG 4 (by rw [listS5]; decide)
          clear hcG e'
          rw [show ((80 : Nat) : Int) = 80 from rfl]
          go_wp2
          go_quiet (fail)
          go_wp2
          go_loopw [8, 9, 10, 11, 12, 74] (fun va vx vc vd ve vt wy => ∃ (k : Nat) (T : S5), k ≤ 80 ∧ vt = .int .i64 (k : Int) ∧ va = .int .u32 (T.a.toNat : Int) ∧ vx = .int .u32 (T.b.toNat : Int) ∧ vc = .int .u32 (T.c.toNat : Int) ∧ vd = .int .u32 (T.d.toNat : Int) ∧ ve = .int .u32 (T.e.toNat : Int) ∧ Hid (T = rnd1 r S k) ∧ ∃ nq, Hid (wy = v.drewN nq)) (fun _ _ _ _ _ vt _ => 80 - (intOf vt).toNat)
          case atStart => exact ⟨0, S, by omega, rfl, rfl, rfl, rfl, rfl, rfl, rfl, nq, rfl⟩
          case round =>
            obtain ⟨k, T, hk, rfl, rfl, rfl, rfl, rfl, rfl, HTR, nr, HWY⟩ := hrel
            by_cases hlt : k < 80
            · have ck : wr.cell? ⟨gw, k, none⟩ = some (.int .u32 ((r.getD k 0).toNat : Int)) := by rw [HWY.out]; exact HCW.out k (by omega)
              have hk2 : (k : Int) < (r.length : Int) := by omega
              have HST : Hid (step1 k (r.getD k 0) T = rnd1 r S (k + 1)) := by show _ = _; rw [HTR.out, rnd1_succ]
              generalize r.getD k 0 = x at *
              obtain ⟨A, X, C, D, E⟩ := T
              simp only at *
              clear HTR
              by_cases c20 : k < 20
              · have c20i : (k : Int) < 20 := by omega
                have hq : k / 20 = 0 := by omega
                have HE : Hid ((step1 k x ⟨A, X, C, D, E⟩).a = rotr A 27 + (chs X C D) + E + 0x5a827999 + x) := by show _ = _; simp only [step1]; rw [hq]; rfl
                have hkc : ((0x5a827999 : UInt32).toNat : Int) = 1518500249 := rfl
                clear hq
                go_wp2
                go_quiet ((go_at_call 45; exact Calls.quiet_of (right_any A 27 _ (by omega) (by omega))))
                go_wp2_with (go_at_call 45; refine (right_any X 2 _ (by omega) (by omega)).mono ?_; rintro e w' ⟨rfl, nt, rfl⟩)
                go_roundw
                case rel =>
                  refine ⟨k + 1, step1 k x ⟨A, X, C, D, E⟩, by omega, by go_num, ?_, rfl, rfl, rfl, rfl, HST, _, (by first | (show _ = _; rw [HWY.out, World.drewN_drewN, World.drewN_drewN]) | (show _ = _; rw [HWY.out, World.drewN_drewN]))⟩
                  rw [HE.out, ← u_add5, hkc]
                  congr 1
                  rw [chs, ← u_xor, ← u_and, ← u_and, ← u_not]
                case measure => simp [intOf]; omega
              by_cases c40 : k < 40
              · have c20i : ¬ (k : Int) < 20 := by omega
                have c40i : (k : Int) < 40 := by omega
                have hq : k / 20 = 1 := by omega
                have HE : Hid ((step1 k x ⟨A, X, C, D, E⟩).a = rotr A 27 + (X ^^^ C ^^^ D) + E + 0x6ed9eba1 + x) := by show _ = _; simp only [step1]; rw [hq]; rfl
                have hkc : ((0x6ed9eba1 : UInt32).toNat : Int) = 1859775393 := rfl
                clear hq
                go_wp2
                go_quiet ((go_at_call 45; exact Calls.quiet_of (right_any A 27 _ (by omega) (by omega))))
                go_wp2_with (go_at_call 45; refine (right_any X 2 _ (by omega) (by omega)).mono ?_; rintro e w' ⟨rfl, nt, rfl⟩)
                go_roundw
                case rel =>
                  refine ⟨k + 1, step1 k x ⟨A, X, C, D, E⟩, by omega, by go_num, ?_, rfl, rfl, rfl, rfl, HST, _, (by first | (show _ = _; rw [HWY.out, World.drewN_drewN, World.drewN_drewN]) | (show _ = _; rw [HWY.out, World.drewN_drewN]))⟩
                  rw [HE.out, ← u_add5, hkc]
                  congr 1
                  rw [← u_xor, ← u_xor]
                case measure => simp [intOf]; omega
              by_cases c60 : k < 60
              · have c20i : ¬ (k : Int) < 20 := by omega
                have c40i : ¬ (k : Int) < 40 := by omega
                have c60i : (k : Int) < 60 := by omega
                have hq : k / 20 = 2 := by omega
                have HE : Hid ((step1 k x ⟨A, X, C, D, E⟩).a = rotr A 27 + (maj X C D) + E + 0x8f1bbcdc + x) := by show _ = _; simp only [step1]; rw [hq]; rfl
                have hkc : ((0x8f1bbcdc : UInt32).toNat : Int) = 2400959708 := rfl
                clear hq
                go_wp2
                go_quiet ((go_at_call 45; exact Calls.quiet_of (right_any A 27 _ (by omega) (by omega))))
                go_wp2_with (go_at_call 45; refine (right_any X 2 _ (by omega) (by omega)).mono ?_; rintro e w' ⟨rfl, nt, rfl⟩)
                go_roundw
                case rel =>
                  refine ⟨k + 1, step1 k x ⟨A, X, C, D, E⟩, by omega, by go_num, ?_, rfl, rfl, rfl, rfl, HST, _, (by first | (show _ = _; rw [HWY.out, World.drewN_drewN, World.drewN_drewN]) | (show _ = _; rw [HWY.out, World.drewN_drewN]))⟩
                  rw [HE.out, ← u_add5, hkc]
                  congr 1
                  rw [maj, ← u_xor, ← u_xor, ← u_and, ← u_and, ← u_and]
                case measure => simp [intOf]; omega
              · have c20i : ¬ (k : Int) < 20 := by omega
                have c40i : ¬ (k : Int) < 40 := by omega
                have c60i : ¬ (k : Int) < 60 := by omega
                have hq : k / 20 = 3 := by omega
                have HE : Hid ((step1 k x ⟨A, X, C, D, E⟩).a = rotr A 27 + (X ^^^ C ^^^ D) + E + 0xca62c1d6 + x) := by show _ = _; simp only [step1]; rw [hq]; rfl
                have hkc : ((0xca62c1d6 : UInt32).toNat : Int) = 3395469782 := rfl
                clear hq
                go_wp2
                go_quiet ((go_at_call 45; exact Calls.quiet_of (right_any A 27 _ (by omega) (by omega))))
                go_wp2_with (go_at_call 45; refine (right_any X 2 _ (by omega) (by omega)).mono ?_; rintro e w' ⟨rfl, nt, rfl⟩)
                go_roundw
                case rel =>
                  refine ⟨k + 1, step1 k x ⟨A, X, C, D, E⟩, by omega, by go_num, ?_, rfl, rfl, rfl, rfl, HST, _, (by first | (show _ = _; rw [HWY.out, World.drewN_drewN, World.drewN_drewN]) | (show _ = _; rw [HWY.out, World.drewN_drewN]))⟩
                  rw [HE.out, ← u_add5, hkc]
                  congr 1
                  rw [← u_xor, ← u_xor]
                case measure => simp [intOf]; omega
            · obtain rfl : k = 80 := by omega
              rw [show ((80 : Nat) : Int) = 80 from rfl]
              have HBE : Hid (beh1 S m = ⟨S.a + T.a, S.b + T.b, S.c + T.c, S.d + T.d, S.e + T.e⟩) := by
                show _ = _
                rw [beh1_eq, HTR.out, HR.out]
              have a0 := u_add2 S.a T.a
              have a1 := u_add2 S.b T.b
              have a2 := u_add2 S.c T.c
              have a3 := u_add2 S.d T.d
              have a4 := u_add2 S.e T.e
              have d0 : wr.cell? ⟨G, 0, none⟩ = some (.int .u32 (S.a.toNat : Int)) := by rw [HWY.out]; exact h0
              have d1 : wr.cell? ⟨G, 1, none⟩ = some (.int .u32 (S.b.toNat : Int)) := by rw [HWY.out]; exact h1
              have d2 : wr.cell? ⟨G, 2, none⟩ = some (.int .u32 (S.c.toNat : Int)) := by rw [HWY.out]; exact h2
              have d3 : wr.cell? ⟨G, 3, none⟩ = some (.int .u32 (S.d.toNat : Int)) := by rw [HWY.out]; exact h3
              have d4 : wr.cell? ⟨G, 4, none⟩ = some (.int .u32 (S.e.toNat : Int)) := by rw [HWY.out]; exact h4
              have HBY : Hid (Below u.heap.size u wr) := by rw [HWY.out]; exact bdrewN HBX.out nr
              have HSZ : Hid (u.heap.size ≤ wr.heap.size) := HBY.out.size
              clear HWY HTR HBX h0 h1 h2 h3 h4 HHv HCW
              generalize T.a = Ta at *
              generalize T.b = Tb' at *
              generalize T.c = Tc at *
              generalize T.d = Td at *
              generalize T.e = Te at *
              go_wp2
              refine rs_tail 25 follows (by kernel_rfl) ?_
              simp only [List.take_succ_cons, List.take_zero, List.drop_succ_cons, List.drop_zero]
              iterate 25 still_step
              refine wpStill_nil ?_
              have HA := hide (And.intro a0 (And.intro a1 (And.intro a2 (And.intro a3 a4))))
              clear a0 a1 a2 a3 a4 d0 d1 d2 d3 d4
              have hJ1 : (J : Int) + 1 ≤ 10000 := by omega
              have hJ0 : (0 : Int) ≤ (J : Int) + 1 := by omega
              go_wp2
              go_roundw
              case rel =>
                refine ⟨J + 1, wr.heap.size, by omega, by first | rfl | go_num, rfl, ?_, ?_, ?_⟩
                · rw [HS1.out, HBE.out]
                  exact ownW_lit wr.drew w.heap.size [S.a + Ta, S.b + Tb', S.c + Tc, S.d + Td, S.e + Te] (Nat.le_trans HBW.out.size HSZ.out) (by simp) _ (by obtain ⟨a0, a1, a2, a3, a4⟩ := HA.out; rw [a0, a1, a2, a3, a4]; rfl)
                · exact HWK.out.below ((HBY.out.drew).alloc HSZ.out _) (Nat.le_refl _)
                · exact HBW.out.trans (((HBY.out.drew).alloc HSZ.out _).mono HBW.out.size)
              case measure => simp [intOf]; omega
    · obtain rfl : J = n := by omega
      have HST : Hid (st1 LL J = LL.foldl beh1 ini1) := by show _ = _; rw [HN.out]; exact st1_all LL
      have HRB : Hid (Calls Tryd.prog 46 #[.slice (some ⟨G, 0, none⟩) 5 5] u fun e w' => ∃ a' cap' r, e = .returned (.slice a' r.length cap') ∧ Hid (r = sha1 l) ∧ Hid (OwnB w' w.heap.size a' cap' r) ∧ Hid (Below w.heap.size w w')) := by
        have h := rbytes_any (some ⟨G, 0, none⟩) 5 (st1 LL J).list w.heap.size u HH.out (by rw [listS5]; decide)
        rw [listS5] at h
        refine h.mono ?_
        rintro e w' ⟨a', cap', r, rfl, hr, ho, hb⟩
        exact ⟨a', cap', r, rfl, (by show _ = _; rw [hr.out, HSH.out, HST.out]), ho.base HBW.out.size, HBW.out.trans (hb.mono HBW.out.size)⟩
      clear HH HWK HBW
      go_wp2_with fail
      refine HRB.out.mono ?_
      rintro e w' ⟨a', cap', r, rfl, hr, ho, hb⟩
      go_wp2
      go_ret
      exact ⟨a', cap', r, rfl, hr, ho, hb⟩
#print axioms rsha1_any
end Go.Proofs.YtegbcjfceooflaaDoor
end
