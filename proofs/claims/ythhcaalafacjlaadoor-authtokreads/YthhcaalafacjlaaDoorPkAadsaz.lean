/-
  APPEND OF A WORD, as a step of a region that draws its order.; THE WALK of the reference's Sha256.
-/
import Derived.Test.YthhcaalafacjlaaDoorPkAadsay
import Derived.Deep.RegionWith
import Derived.BigRegion
import Derived.Deep.AppendLies
import Derived.Deep.RegionLaw
section
set_option linter.unusedVariables false
namespace Go.Proofs.YthhcaalafacjlaaDoor
open Go.RowKit

theorem empty_w (w : World) (base : Nat) (hb : base ≤ w.heap.size) : OwnW (w.alloc (.cells #[] 94)) base (some ⟨w.heap.size, 0, none⟩) 0 [] := ownW_lit w base [] hb (by simp) #[] rfl

/-- append(s, word), s the call's own, as a step of a region that draws its order. -/
theorem stp_appw (w : World) {ops : Array Oper} {o : Oper} {a : Act} {K : Act → World → Prop} {Q : Exit → Act → World → Prop} {E : Prop} (hgd : o.guard = none) (s x : Operand)
    (ho : o.op = .call { callee := .builtin .append, args := #[s, x], argTypes := #[112, 112] })
    (base : Nat) (a1 : Option Addr) (cap1 : Nat) (l1 : List UInt32) (hs : a.eval s = .slice a1 l1.length cap1) (hown : OwnW w base a1 cap1 l1)
    (b c2 : Nat) (t : UInt32) (hx : a.eval x = .slice (some ⟨b, 0, none⟩) 1 c2) (hsrc : RowW w b [t]) (hlen : l1.length ≤ 1000000) (hbase : base ≤ w.heap.size)
    (h : ∀ g cap r w', Hid (r = l1 ++ [t]) → Hid (OwnW w' base (some ⟨g, 0, none⟩) cap r) → Hid (w.grownBy w' (blk a1)) → K (a.put o.dst (.slice (some ⟨g, 0, none⟩) r.length cap)) w') :
    if Region.wanted o (yielded ops a.tmps) = true then Oper.wp Tryd.prog o a w K Q else E := by
  obtain ⟨i, hi, hz0, hz1, hz2⟩ := info_parts Tryd.infoW
  have hblk : (Value.slice a1 l1.length cap1).ownBlock = blk a1 := by cases a1 <;> rfl
  refine step_append_lies w hgd s x 112 ho base 94 i (.int .u32 0) 1 4 Tryd.underlying112 hi hz0 hz1 hz2 rfl (by decide) _ _ _ hs hown ⟨b, 0, none⟩ 1 c2 (us [t]) hx (by simp [us_length]) ?_ (us_one' [t]) (by decide) (by unfold maxLen; omega) (by omega) hbase _ rfl ?_
  · intro j u hu
    have hj : j < 1 := by
      have := (List.getElem?_eq_some_iff.1 hu).1
      simpa [us_length] using this
    rw [us_get [t] j hj] at hu
    obtain rfl := Option.some.inj hu
    rw [addr_add, Nat.zero_add]
    exact hsrc j hj
  · intro g cap w' h1 h2 _ _
    have e1 : l1.length + 1 = (l1 ++ [t]).length := by simp
    have e2 : us l1 ++ us [t] = us (l1 ++ [t]) := by simp [us]
    rw [e1, e2] at h1
    rw [hblk] at h2
    rw [e1]
    exact h g cap (l1 ++ [t]) w' rfl h1 h2

#print axioms stp_appw
end Go.Proofs.YthhcaalafacjlaaDoor
end
section
set_option linter.unusedVariables false
namespace Go.Proofs.YthhcaalafacjlaaDoor
open Go.RowKit

theorem right_z (x : UInt32) (z : Int) (w : World) (h1 : 1 ≤ z) (h2 : z ≤ 31) : Calls Tryd.prog 80 #[.int .u32 (x.toNat : Int), .int .i64 z] w fun e w' => e = .returned (.int .u32 ((rotr x z.toNat).toNat : Int)) ∧ ∃ k, w' = w.drewN k := by
  obtain ⟨n, rfl⟩ : ∃ n : Nat, z = (n : Int) := ⟨z.toNat, by omega⟩
  exact right_any x n w (by omega) (by omega)
def st2 (LL : List (List UInt8)) (J : Nat) : S8 := (LL.take J).foldl beh2 ini2
theorem st2_succ (LL : List (List UInt8)) (J : Nat) (m : List UInt8) (h : LL[J]? = some m) : st2 LL (J + 1) = beh2 (st2 LL J) m := by
  unfold st2
  rw [List.take_add_one, h]
  simp
theorem st2_all (LL : List (List UInt8)) : st2 LL LL.length = LL.foldl beh2 ini2 := by unfold st2; rw [List.take_length]
/-- The first i words have grown. -/
def ups (s t : List UInt32) : Nat → List UInt32
  | 0 => s
  | i + 1 => (ups s t i).set i (s.getD i 0 + t.getD i 0)
theorem ups_length (s t : List UInt32) : ∀ i, (ups s t i).length = s.length
  | 0 => rfl
  | i + 1 => by rw [ups, List.length_set, ups_length s t i]
theorem ups_get (s t : List UInt32) : ∀ i j, i ≤ j → (ups s t i).getD j 0 = s.getD j 0
  | 0, j, _ => rfl
  | i + 1, j, h => by
    rw [ups]
    simp only [List.getD_eq_getElem?_getD]
    rw [List.getElem?_set_ne (by omega)]
    have := ups_get s t i j (by omega)
    simpa only [List.getD_eq_getElem?_getD] using this
theorem ups_all (S T : S8) : ups S.list T.list 8 = [S.a + T.a, S.b + T.b, S.c + T.c, S.d + T.d, S.e + T.e, S.f + T.f, S.g + T.g, S.h + T.h] := rfl

theorem cgw (w : World) (p : Addr) (u : Value) : w.grownBy (w.setCell p u).drew (some p.block) :=
  ⟨rfl, rfl, rfl, by simp [World.setCell], fun k hk hne => Below.heap_setCell w p u k (by intro h; subst h; exact hne rfl)⟩
theorem gtransW {a b c : World} {row : Option Nat} (h : a.grownBy b row) (k : b.grownBy c row) : a.grownBy c row :=
  ⟨k.os.trans h.os, k.tape.trans h.tape, k.output.trans h.output, Nat.le_trans h.size k.size, fun j hj hne => (k.block j (Nat.lt_of_lt_of_le hj h.size) hne).trans (h.block j hj hne)⟩
theorem xor3 (a b c : UInt32) : bits .xor .u32 (bits .xor .u32 (a.toNat : Int) (b.toNat : Int)) (c.toNat : Int) = ((a ^^^ b ^^^ c).toNat : Int) := by rw [u_xor, u_xor]
theorem xor3a (a b x : UInt32) : bits .xor .u32 (bits .xor .u32 (a.toNat : Int) (b.toNat : Int)) ((x.toNat : Int) / 8) = ((a ^^^ b ^^^ (x >>> 3)).toNat : Int) := by rw [u_shr3, u_xor, u_xor]
theorem xor3b (a b x : UInt32) : bits .xor .u32 (bits .xor .u32 (a.toNat : Int) (b.toNat : Int)) ((x.toNat : Int) / 1024) = ((a ^^^ b ^^^ (x >>> 10)).toNat : Int) := by rw [u_shr10, u_xor, u_xor]
theorem rowW_made (w : World) (l : List UInt32) (c : Array Value) (hc : c = (us l).toArray) : RowW (w.alloc (.cells c 94)) w.heap.size l := by
  subst hc
  intro i hi
  rw [cell_of_row _ w.heap.size i _ _ _ (heap_alloc_new w _)]
  have := us_get l i hi
  simpa using this
set_option maxRecDepth 1000000 in
set_option maxHeartbeats 1000000 in
theorem consts_any (w : World) : Calls Tryd.prog 78 #[] w fun e w' => ∃ g, e = .returned (.slice (some ⟨g, 0, none⟩) 64 64) ∧ Hid (RowW w' g k2s) ∧ Hid (g < w'.heap.size) ∧ Hid (w.heap.size ≤ g) ∧ Hid (Below w.heap.size w w') := by
  go_enter Tryd.func78, Tryd.ntmps78
  go_wp2
  go_ret
  refine ⟨w.heap.size, rfl, ?_, (by show _ < _; simp), (by show _ ≤ _; exact Nat.le_refl _), (Below.refl _ _).alloc (Nat.le_refl _) _⟩
  obtain ⟨g', e, _, _, _, h⟩ := (ownW_lit w w.heap.size k2s (Nat.le_refl _) (by decide) _ rfl).some (by decide)
  obtain rfl : w.heap.size = g' := by simpa using Option.some.inj e
  exact h

set_option maxRecDepth 1000000 in
set_option maxHeartbeats 8000000 in
theorem rsha2_any (a : Option Addr) (cap : Nat) (l : List UInt8) (w : World) (hB : Bs w a cap l) (hl : l.length ≤ 100000) :
    Calls Tryd.prog 61 #[.slice a l.length cap] w fun e w' => ∃ a' cap' r, e = .returned (.slice a' r.length cap') ∧ Hid (r = sha2 l) ∧ Hid (OwnB w' w.heap.size a' cap' r) ∧ Hid (Below w.heap.size w w') := by
  have HB := hide hB
  clear hB
  go_enter Tryd.func61, Tryd.ntmps61
  go_wp2_with fail
  refine (consts_any _).mono ?_
  rintro e w0 ⟨gk, rfl, HK0, HG0, HLB, HB0⟩
  have HH0 : Hid (OwnW w0 w.heap.size (some ⟨w.heap.size, 0, none⟩) 8 ini2.list) := (ownW_lit w w.heap.size ini2.list (Nat.le_refl _) (by decide) _ rfl).below HB0.out (Nat.le_refl _)
  have HBW0 : Hid (Below w.heap.size w w0) := ((Below.refl _ _).alloc (Nat.le_refl _) _).trans (HB0.out.mono (by simp))
  have HSZ0 : Hid (w.heap.size < w0.heap.size) := by have := HB0.out.size; show _ < _; simp at this; omega
  have HLB0 : Hid (w.heap.size < gk) := by have := HLB.out; show _ < _; simp at this; omega
  clear HB0 HLB
  go_wp2_with fail
  refine (blocks_low a cap l _ (HB.out.below HBW0.out (Nat.le_refl _)) hl).mono ?_
  rintro e w1 ⟨g, n, c, rfl, HN, HWK, HB1, hn⟩
  have HW0 := hide (HH0.out.below HB1.out (Nat.le_refl _))
  have HK1 := hide (HK0.out.below HB1.out HG0.out)
  have HBW : Hid (Below w.heap.size w w1) := HBW0.out.trans (HB1.out.mono HBW0.out.size)
  have HG1 : Hid (gk < w1.heap.size) := Nat.lt_of_lt_of_le HG0.out HB1.out.size
  clear HB1 HH0 HK0 HBW0 HG0
  have HSH : Hid (sha2 l = byts ((blks (l.length * 8) l).foldl beh2 ini2).list) := by
    show _ = _
    unfold sha2 fin2
    rw [Nat.zero_add]
  generalize blks (l.length * 8) l = LL at *
  obtain ⟨Gh, hGh⟩ : ∃ G, G = w.heap.size := ⟨_, rfl⟩
  have HW0 : Hid (OwnW w1 w.heap.size (some ⟨Gh, 0, none⟩) 8 ini2.list) := by rw [hGh]; exact HW0
  have HGH : Hid (w.heap.size ≤ Gh) := by show _ ≤ _; omega
  have HGK0 : Hid (gk ≠ Gh) := by have := HLB0.out; show _ ≠ _; omega
  have HGW : Hid (Gh < w0.heap.size) := by have := HSZ0.out; show _ < _; omega
  clear HLB0 HSZ0
  rw [show (some ⟨w.heap.size, 0, none⟩ : Option Addr) = some ⟨Gh, 0, none⟩ by rw [hGh]]
  clear hGh
  go_wp2
  go_loopw [21] (fun v wr => ∃ (J : Nat), J ≤ n ∧ v = .int .i64 (J : Int) ∧ Hid (OwnW wr w.heap.size (some ⟨Gh, 0, none⟩) 8 (st2 LL J).list) ∧ Hid (RowW wr gk k2s) ∧ Hid (gk < wr.heap.size) ∧ Hid (WksB w0.heap.size wr g LL) ∧ Hid (Below w.heap.size w wr)) (fun v _ => n - (intOf v).toNat)
  case atStart => exact ⟨0, Nat.zero_le _, rfl, HW0, HK1, HG1, HWK, HBW⟩
  case round =>
    clear HW0 HWK HBW HK1 HG1
    obtain ⟨J, hJ, rfl, HH, HKR, HGK, HWK, HBW⟩ := hrel
    obtain ⟨u, rfl⟩ : ∃ u, u = wr := ⟨wr, rfl⟩
    by_cases hlt : J < n
    · have hlt2 : (J : Int) < (n : Int) := by omega
      obtain ⟨m, hm⟩ : ∃ m, LL[J]? = some m := ⟨LL[J]'(by have := HN.out; omega), by rw [List.getElem?_eq_getElem]⟩
      obtain ⟨b, cb, cJ, hrow, _⟩ := HWK.out.2 J m hm
      have HROW := hide hrow
      have HS1 := hide (st2_succ LL J m hm)
      have hsz := HBW.out.size
      clear hm hrow
      go_wp2_with (at_builtin; refine wp_appw _ rfl _ _ rfl u.heap.size (some ⟨u.heap.size, 0, none⟩) 0 [] rfl (empty_w u _ (Nat.le_refl _)) b 16 cb (wrd m 16) rfl (wrd_length m 16).symm (HROW.out.below ((Below.refl _ _).alloc (Nat.le_refl _) _) ?c0) ?c1 ?c2 ?_)
      case c0 => exact World.block_lt_of_cell? u _ (HROW.out 0 (by rw [wrd_length]; decide))
      case c1 => rw [wrd_length]; simp
      case c2 => simp
      intro a2 c2 r2 w2 hr2 ho2 hg2
      have HR2 : Hid (r2 = sch2 m 16) := by show _ = _; rw [hr2.out, wrd_sch2 m 16 (Nat.le_refl _)]; first | done | rfl
      have HB2 : Hid (Below u.heap.size u w2) := below_grown (a := some ⟨u.heap.size, 0, none⟩) ((Below.refl _ _).alloc (Nat.le_refl _) _) hg2 (Nat.le_refl _) (fun k hk => by simp [blk] at hk; omega)
      have HO2 := hide ho2
      clear hr2 hg2 ho2
      go_wp2
      go_loopw [7, 8] (fun vw v wx => ∃ (K : Nat) (aw : Option Addr) (cw : Nat) (r : List UInt32), 16 ≤ K ∧ K ≤ 64 ∧ v = .int .i64 (K : Int) ∧ vw = .slice aw r.length cw ∧ Hid (r = sch2 m K) ∧ Hid (OwnW wx u.heap.size aw cw r) ∧ Hid (Below u.heap.size u wx)) (fun _ v _ => 64 - (intOf v).toNat)
      case atStart => exact ⟨16, a2, c2, r2, by omega, by omega, rfl, rfl, HR2, HO2, HB2⟩
      case round =>
        clear HR2 HO2 HB2
        obtain ⟨K, aw, cw, r, hK1, hK2, rfl, rfl, HR, HO, HBX⟩ := hrel
        have HRL : Hid (r.length = K) := by show _ = _; rw [HR.out, sch2_length]
        by_cases hlt : K < 64
        · obtain ⟨gw, rfl, hgw1, hgw2, _, hcw⟩ := HO.out.some (by have := HRL.out; omega)
          obtain ⟨P15, hP15⟩ : ∃ P, P + 15 = K := ⟨K - 15, by omega⟩
          obtain ⟨P2, hP2⟩ : ∃ P, P + 2 = K := ⟨K - 2, by omega⟩
          obtain ⟨P7, hP7⟩ : ∃ P, P + 7 = K := ⟨K - 7, by omega⟩
          obtain ⟨P16, hP16⟩ : ∃ P, P + 16 = K := ⟨K - 16, by omega⟩
          have hrl1 : r.length ≤ 80 := by have := HRL.out; omega
          have c15 := hcw P15 (by have := HRL.out; omega)
          have c2' := hcw P2 (by have := HRL.out; omega)
          have c7 := hcw P7 (by have := HRL.out; omega)
          have c16 := hcw P16 (by have := HRL.out; omega)
          have b15 : (0 : Int) ≤ (P15 : Int) ∧ (P15 : Int) < (r.length : Int) := by have := HRL.out; omega
          have b2 : (0 : Int) ≤ (P2 : Int) ∧ (P2 : Int) < (r.length : Int) := by have := HRL.out; omega
          have b7 : (0 : Int) ≤ (P7 : Int) ∧ (P7 : Int) < (r.length : Int) := by have := HRL.out; omega
          have b16 : (0 : Int) ≤ (P16 : Int) ∧ (P16 : Int) < (r.length : Int) := by have := HRL.out; omega
          have q15 : IntKind.i64.wrap ((K : Int) - 15) = (P15 : Int) := by rw [IntKind.wrap_i64]; omega
          have q2 : IntKind.i64.wrap ((K : Int) - 2) = (P2 : Int) := by rw [IntKind.wrap_i64]; omega
          have q7 : IntKind.i64.wrap ((K : Int) - 7) = (P7 : Int) := by rw [IntKind.wrap_i64]; omega
          have q16 : IntKind.i64.wrap ((K : Int) - 16) = (P16 : Int) := by rw [IntKind.wrap_i64]; omega
          have HNX : Hid (r ++ [r.getD P16 0 + g7 (r.getD P15 0) + r.getD P7 0 + g17 (r.getD P2 0)] = sch2 m (K + 1)) := by
            show _ = _
            have e15 : K - 15 = P15 := by omega
            have e2 : K - 2 = P2 := by omega
            have e7 : K - 7 = P7 := by omega
            have e16 : K - 16 = P16 := by omega
            rw [HR.out]
            show _ = sch2 m K ++ [nxt2 m (sch2 m K) K]
            rw [nxt2, if_neg (by omega), e15, e2, e7, e16]
            rfl
          generalize r.getD P15 0 = x15 at *
          generalize r.getD P2 0 = x2 at *
          generalize r.getD P7 0 = x7 at *
          generalize r.getD P16 0 = x16 at *
          have e3 := hide (xor3a (rotr x15 7) (rotr x15 18) x15)
          have e6 := hide (xor3b (rotr x2 17) (rotr x2 19) x2)
          rw [show rotr x15 7 ^^^ rotr x15 18 ^^^ (x15 >>> 3) = g7 x15 from rfl] at e3
          rw [show rotr x2 17 ^^^ rotr x2 19 ^^^ (x2 >>> 10) = g17 x2 from rfl] at e6
          generalize g7 x15 = X at *
          generalize g17 x2 = Y at *
          clear hP15 hP2 hP7 hP16 hcw
          go_wp2
          go_quiet ((go_at_call 80; exact Calls.quiet_of (right_z _ _ _ (by decide) (by decide))))
          generalize hy : wr.drewN nq = y
          have d2 : y.cell? ⟨gw, P2, none⟩ = some (.int .u32 (x2.toNat : Int)) := by rw [← hy]; exact c2'
          have d7 : y.cell? ⟨gw, P7, none⟩ = some (.int .u32 (x7.toNat : Int)) := by rw [← hy]; exact c7
          have d16 : y.cell? ⟨gw, P16, none⟩ = some (.int .u32 (x16.toNat : Int)) := by rw [← hy]; exact c16
          have HOy : Hid (OwnW y u.heap.size (some ⟨gw, 0, none⟩) cw r) := by rw [← hy]; exact HO.out
          have HBy : Hid (Below u.heap.size u y) := by rw [← hy]; exact bdrewN HBX.out nq
          clear hy c15 c2' c7 c16 HO HBX
          go_wp2
          go_quiet ((go_at_call 80; exact Calls.quiet_of (right_z _ _ _ (by decide) (by decide))))
          generalize hz : y.drewN nq = z
          have c7 : z.cell? ⟨gw, P7, none⟩ = some (.int .u32 (x7.toNat : Int)) := by rw [← hz]; exact d7
          have c16 : z.cell? ⟨gw, P16, none⟩ = some (.int .u32 (x16.toNat : Int)) := by rw [← hz]; exact d16
          have HO : Hid (OwnW z u.heap.size (some ⟨gw, 0, none⟩) cw r) := by rw [← hz]; exact HOy.out
          have HBX : Hid (Below u.heap.size u z) := by rw [← hz]; exact bdrewN HBy.out nq
          clear hz d2 d7 d16 HOy HBy
          go_wp2
          go_region_law (first
            | (refine stp_appw _ rfl _ _ rfl u.heap.size (some ⟨gw, 0, none⟩) cw r rfl (HO.out.alloc _) _ 1 (x16 + X + x7 + Y) rfl (rowW_lit _ _ _ (by rw [e3.out, e6.out, u_add, u_add, u_add])) (by omega) (by have := HBX.out.size; simp; omega) ?_; intro g5 c5 r5 w5 hr5 ho5 hg5))
          all_goals
            have HR5 : Hid (r5 = sch2 m (K + 1)) := by show _ = _; rw [hr5.out]; exact HNX.out
            have HB5 : Hid (Below u.heap.size u w5) := below_grown (a := some ⟨gw, 0, none⟩) ((HBX.out.drew).alloc HBX.out.size _) hg5.out (Nat.le_refl _) (fun k hk => by simp [blk] at hk; omega)
            clear hr5 hg5 HR HNX HO HBX c7 c16
            go_wp2
            go_roundw
            case rel => exact ⟨K + 1, some ⟨g5, 0, none⟩, c5, r5, by omega, by omega, by go_num, rfl, HR5, ho5, HB5⟩
            case measure => simp [intOf]; omega
        · obtain rfl : K = 64 := by omega
          obtain ⟨v, rfl⟩ : ∃ v, v = wr := ⟨wr, rfl⟩
          obtain ⟨gw, rfl, hgw1, hgw2, _, hcw⟩ := HO.out.some (by have := HRL.out; omega)
          have HCW : Hid (RowW v gw r) := hcw
          have hrl1 : 64 ≤ r.length := by have := HRL.out; omega
          have hrl2 : r.length ≤ 64 := by have := HRL.out; omega
          clear hcw HO
          obtain ⟨S, hS⟩ : ∃ S, S = st2 LL J := ⟨_, rfl⟩
          rw [← hS] at HS1 HH
          have HHv := hide (HH.out.below HBX.out (Nat.le_refl _))
          have HKv := hide (HKR.out.below HBX.out HGK.out)
          clear hS HH
          obtain ⟨G', e', hG1, hG2, _, hcG⟩ := HHv.out.some (by rw [listS8]; decide)
          obtain rfl : Gh = G' := by simpa using Option.some.inj e'
          have HRS : Hid (RowW v Gh S.list) := hcG
          clear hcG e'
          have hv1 := HBX.out.size
          rw [show ((64 : Nat) : Int) = 64 from rfl]
          go_wp2_with (at_builtin; refine wp_appw _ rfl _ _ rfl v.heap.size (some ⟨v.heap.size, 0, none⟩) 0 [] rfl (empty_w v _ (Nat.le_refl _)) Gh 8 8 S.list rfl rfl (HRS.out.below ((Below.refl _ _).alloc (Nat.le_refl _) _) hG2) ?f1 ?f2 ?_)
          case f1 => rw [listS8]; simp
          case f2 => simp
          intro a3 c3 r3 w3 hr3 ho3 hg3
          have er3 : r3 = S.list := by rw [hr3.out]; first | done | rfl
          subst er3
          obtain ⟨gs, rfl, hgs1, hgs2, _, hcs⟩ := ho3.some (by rw [listS8]; decide)
          have HB3 : Hid (Below v.heap.size v w3) := below_grown (a := some ⟨v.heap.size, 0, none⟩) ((Below.refl _ _).alloc (Nat.le_refl _) _) hg3 (Nat.le_refl _) (fun k hk => by simp [blk] at hk; omega)
          have HS3 : Hid (RowW w3 gs S.list) := hcs
          clear hr3 ho3 hg3 hcs
          go_wp2
          go_loopw [11, 93] (fun vs vt wy => ∃ (k : Nat) (T : S8) (gs cs : Nat), k ≤ 64 ∧ vt = .int .i64 (k : Int) ∧ vs = .slice (some ⟨gs, 0, none⟩) 8 cs ∧ Hid (T = rnd2 r S k) ∧ Hid (RowW wy gs T.list) ∧ Hid (v.heap.size ≤ gs) ∧ Hid (Below v.heap.size v wy)) (fun _ vt _ => 64 - (intOf vt).toNat)
          case atStart => exact ⟨0, S, gs, c3, by omega, rfl, rfl, rfl, HS3, hgs1, HB3⟩
          case round =>
            clear HS3 HB3
            obtain ⟨k, T, gs, cs, hk, rfl, rfl, HTR, HTS, HGS, HBY⟩ := hrel
            by_cases hlt : k < 64
            · have ck := (HCW.out.below HBY.out hgw2) k (by omega)
              have kk : wr.cell? ⟨gk, k, none⟩ = some (.int .u32 ((k2 k).toNat : Int)) := (HKv.out.below HBY.out (Nat.lt_of_lt_of_le HGK.out hv1)) k (show k < 64 from hlt)
              have hk2 : (k : Int) < (r.length : Int) := by omega
              have HST : Hid (step2 k (r.getD k 0) T = rnd2 r S (k + 1)) := by show _ = _; rw [HTR.out, rnd2_succ]
              generalize r.getD k 0 = x at *
              obtain ⟨A, B, C, D, E, F, G, H⟩ := T
              have t0 : wr.cell? ⟨gs, 0, none⟩ = some (.int .u32 (A.toNat : Int)) := HTS.out 0 (by rw [listS8]; decide)
              have t1 : wr.cell? ⟨gs, 1, none⟩ = some (.int .u32 (B.toNat : Int)) := HTS.out 1 (by rw [listS8]; decide)
              have t2 : wr.cell? ⟨gs, 2, none⟩ = some (.int .u32 (C.toNat : Int)) := HTS.out 2 (by rw [listS8]; decide)
              have t3 : wr.cell? ⟨gs, 3, none⟩ = some (.int .u32 (D.toNat : Int)) := HTS.out 3 (by rw [listS8]; decide)
              have t4 : wr.cell? ⟨gs, 4, none⟩ = some (.int .u32 (E.toNat : Int)) := HTS.out 4 (by rw [listS8]; decide)
              have t5 : wr.cell? ⟨gs, 5, none⟩ = some (.int .u32 (F.toNat : Int)) := HTS.out 5 (by rw [listS8]; decide)
              have t6 : wr.cell? ⟨gs, 6, none⟩ = some (.int .u32 (G.toNat : Int)) := HTS.out 6 (by rw [listS8]; decide)
              have t7 : wr.cell? ⟨gs, 7, none⟩ = some (.int .u32 (H.toNat : Int)) := HTS.out 7 (by rw [listS8]; decide)
              have HE : Hid (step2 k x ⟨A, B, C, D, E, F, G, H⟩ = ⟨(H + (rotr E 6 ^^^ rotr E 11 ^^^ rotr E 25) + chs E F G + k2 k + x) + ((rotr A 2 ^^^ rotr A 13 ^^^ rotr A 22) + maj A B C), A, B, C, D + (H + (rotr E 6 ^^^ rotr E 11 ^^^ rotr E 25) + chs E F G + k2 k + x), E, F, G⟩) := by
                show _ = _
                simp only [step2, one2, two2]
                rw [UInt32.add_assoc (H + (rotr E 6 ^^^ rotr E 11 ^^^ rotr E 25) + chs E F G + k2 k + x)]
              generalize k2 k = kc at *
              have p2 := hide (xor3 (rotr E 6) (rotr E 11) (rotr E 25))
              have p8 := hide (xor3 (rotr A 2) (rotr A 13) (rotr A 22))
              generalize rotr E 6 ^^^ rotr E 11 ^^^ rotr E 25 = S1 at *
              generalize rotr A 2 ^^^ rotr A 13 ^^^ rotr A 22 = S0 at *
              clear HTR HTS
              go_wp2
              go_quiet ((go_at_call 80; exact Calls.quiet_of (right_z _ _ _ (by decide) (by decide))))
              generalize hy : wr.drewN nq = y
              have y0 : y.cell? ⟨gs, 0, none⟩ = some (.int .u32 (A.toNat : Int)) := by rw [← hy]; exact t0
              have y1 : y.cell? ⟨gs, 1, none⟩ = some (.int .u32 (B.toNat : Int)) := by rw [← hy]; exact t1
              have y2 : y.cell? ⟨gs, 2, none⟩ = some (.int .u32 (C.toNat : Int)) := by rw [← hy]; exact t2
              have y3 : y.cell? ⟨gs, 3, none⟩ = some (.int .u32 (D.toNat : Int)) := by rw [← hy]; exact t3
              have y4 : y.cell? ⟨gs, 4, none⟩ = some (.int .u32 (E.toNat : Int)) := by rw [← hy]; exact t4
              have y5 : y.cell? ⟨gs, 5, none⟩ = some (.int .u32 (F.toNat : Int)) := by rw [← hy]; exact t5
              have y6 : y.cell? ⟨gs, 6, none⟩ = some (.int .u32 (G.toNat : Int)) := by rw [← hy]; exact t6
              have HBy : Hid (Below v.heap.size v y) := by rw [← hy]; exact bdrewN HBY.out nq
              clear hy t0 t1 t2 t3 t4 t5 t6 t7 ck kk HBY
              go_wp2
              go_quiet ((go_at_call 80; exact Calls.quiet_of (right_z _ _ _ (by decide) (by decide))))
              generalize hz : y.drewN nq = z
              have z0 : z.cell? ⟨gs, 0, none⟩ = some (.int .u32 (A.toNat : Int)) := by rw [← hz]; exact y0
              have z1 : z.cell? ⟨gs, 1, none⟩ = some (.int .u32 (B.toNat : Int)) := by rw [← hz]; exact y1
              have z2 : z.cell? ⟨gs, 2, none⟩ = some (.int .u32 (C.toNat : Int)) := by rw [← hz]; exact y2
              have z3 : z.cell? ⟨gs, 3, none⟩ = some (.int .u32 (D.toNat : Int)) := by rw [← hz]; exact y3
              have z4 : z.cell? ⟨gs, 4, none⟩ = some (.int .u32 (E.toNat : Int)) := by rw [← hz]; exact y4
              have z5 : z.cell? ⟨gs, 5, none⟩ = some (.int .u32 (F.toNat : Int)) := by rw [← hz]; exact y5
              have z6 : z.cell? ⟨gs, 6, none⟩ = some (.int .u32 (G.toNat : Int)) := by rw [← hz]; exact y6
              have HBz : Hid (Below v.heap.size v z) := by rw [← hz]; exact bdrewN HBy.out nq
              have HSZ : Hid (v.heap.size ≤ z.heap.size) := HBz.out.size
              clear hz y0 y1 y2 y3 y4 y5 y6 HBy
              go_wp2
              refine rs_tail 26 follows (by kernel_rfl) ?_
              simp only [List.take_succ_cons, List.take_zero, List.drop_succ_cons, List.drop_zero]
              iterate 26 still_step
              refine wpStill_nil ?_
              clear z0 z1 z2 z3 z4 z5 z6
              have hk1 : (k : Int) + 1 ≤ 64 := by omega
              go_wp2
              go_roundw
              case rel =>
                refine ⟨k + 1, step2 k x ⟨A, B, C, D, E, F, G, H⟩, z.heap.size, 8, by omega, by go_num, rfl, HST, ?_, HSZ, (HBz.out.drew).alloc HSZ.out _⟩
                rw [HE.out]
                refine rowW_made z.drew _ _ ?_
                refine congrArg List.toArray ?_
                have hch : bits .xor .u32 (bits .and .u32 (E.toNat : Int) (F.toNat : Int)) (bits .and .u32 (bits .xor .u32 IntKind.u32.max (E.toNat : Int)) (G.toNat : Int)) = ((chs E F G).toNat : Int) := by rw [u_not, u_and, u_and, u_xor]; rfl
                have hmj : bits .xor .u32 (bits .xor .u32 (bits .and .u32 (A.toNat : Int) (B.toNat : Int)) (bits .and .u32 (A.toNat : Int) (C.toNat : Int))) (bits .and .u32 (B.toNat : Int) (C.toNat : Int)) = ((maj A B C).toNat : Int) := by rw [u_and, u_and, u_and, u_xor, u_xor]; rfl
                simp only [us, S8.list, List.map_cons, List.map_nil, List.cons.injEq, Value.int.injEq, true_and, and_true]
                refine ⟨?_, ?_⟩
                · rw [hch, hmj, p2.out, p8.out]
                  simp only [UInt32.toNat_add]
                  omega
                · rw [hch, p2.out]
                  simp only [UInt32.toNat_add]
                  omega
              case measure => simp [intOf]; omega
            · obtain rfl : k = 64 := by omega
              obtain ⟨y, rfl⟩ : ∃ y, y = wr := ⟨wr, rfl⟩
              have HUA : Hid (ups S.list T.list 8 = (st2 LL (J + 1)).list) := by
                show _ = _
                rw [ups_all, HS1.out, beh2_eq, HTR.out, HR.out]
                rfl
              have HHy := hide (HHv.out.below HBY.out (Nat.le_refl _))
              have HGne : Hid (gs ≠ Gh) := by have := HGS.out; show _ ≠ _; omega
              have HKy := hide (HKv.out.below HBY.out (Nat.lt_of_lt_of_le HGK.out hv1))
              have HBu : Hid (Below u.heap.size u y) := HBX.out.trans (HBY.out.mono hv1)
              have HWy := hide (HWK.out.below HBu.out (Nat.le_refl _))
              have HBwy : Hid (Below w.heap.size w y) := HBW.out.trans (HBu.out.mono HBW.out.size)
              have HGy : Hid (gk < y.heap.size) := Nat.lt_of_lt_of_le HGK.out HBu.out.size
              clear HTR HR HHv HKv HBX HWK HBW HGK HKR HCW HRS HROW HRL
              as_aux_lemma =>
                rw [show ((64 : Nat) : Int) = 64 from rfl]
                go_wp2
                go_loopw [207] (fun vi wz => ∃ i : Nat, i ≤ 8 ∧ vi = .int .i64 (i : Int) ∧ Hid (OwnW wz w.heap.size (some ⟨Gh, 0, none⟩) 8 (ups S.list T.list i)) ∧ Hid (RowW wz gs T.list) ∧ Hid (y.grownBy wz (some Gh))) (fun vi _ => 8 - (intOf vi).toNat)
                case atStart => exact ⟨0, by omega, rfl, HHy, HTS, World.grownBy.refl _ _⟩
                case round =>
                  clear HHy HTS
                  obtain ⟨i, hi, rfl, HO4, HT4, HG4⟩ := hrel
                  by_cases hi8 : i < 8
                  · obtain ⟨G', e', _, hG', hf4, hc4⟩ := HO4.out.some (by rw [ups_length, listS8]; decide)
                    obtain rfl : Gh = G' := by simpa using Option.some.inj e'
                    have cH := hc4 i (by rw [ups_length, listS8]; exact hi8)
                    rw [ups_get S.list T.list i i (Nat.le_refl _)] at cH
                    have fH := hf4 i
                    have cS := HT4.out i (by rw [listS8]; exact hi8)
                    have HUS : Hid ((ups S.list T.list i).set i (S.list.getD i 0 + T.list.getD i 0) = ups S.list T.list (i + 1)) := rfl
                    have hi2 : (0 : Int) ≤ (i : Int) ∧ (i : Int) < 8 := by omega
                    have hgs4 : gs < wr.heap.size := World.block_lt_of_cell? wr _ cS
                    generalize S.list.getD i 0 = sx at *
                    generalize T.list.getD i 0 = tx at *
                    clear hf4 hc4 e'
                    go_wp2
                    refine rs_tail 10 follows (by kernel_rfl) ?_
                    simp only [List.take_succ_cons, List.take_zero, List.drop_succ_cons, List.drop_zero]
                    iterate 10 still_step
                    refine wpStill_nil ?_
                    go_wp2
                    go_roundw
                    case rel =>
                      refine ⟨i + 1, by omega, by go_num, ?_, ?_, ?_⟩
                      · rw [← HUS.out]
                        exact OwnW.stored (w := wr.drew) HO4.out i (sx + tx) _ (by first | exact u_add2 sx tx | exact u_add sx tx)
                      · exact RowW.far (w := wr) HT4.out (G := Gh) (cgw wr ⟨Gh, i, none⟩ _) HGne.out hgs4
                      · exact gtransW HG4.out (cgw wr ⟨Gh, i, none⟩ _)
                    case measure => simp [intOf]; omega
                  · obtain rfl : i = 8 := by omega
                    rw [HUA.out] at HO4
                    have hJ1 : (J : Int) + 1 ≤ 10000 := by omega
                    rw [show ((8 : Nat) : Int) = 8 from rfl]
                    go_wp2
                    go_roundw
                    case rel => exact ⟨J + 1, by omega, by go_num, HO4, HKy.out.far HG4.out HGK0.out HGy.out, Nat.lt_of_lt_of_le HGy.out HG4.out.size, HWy.out.far HG4.out HGW.out, below_grown (a := some ⟨Gh, 0, none⟩) HBwy.out HG4.out (Nat.le_refl _) (fun k hk => by simp [blk] at hk; have := HGH.out; omega)⟩
                    case measure => simp [intOf]; omega
    · obtain rfl : J = n := by omega
      have HST : Hid (st2 LL J = LL.foldl beh2 ini2) := by show _ = _; rw [HN.out]; exact st2_all LL
      have HRB : Hid (Calls Tryd.prog 81 #[.slice (some ⟨Gh, 0, none⟩) 8 8] u fun e w' => ∃ a' cap' r, e = .returned (.slice a' r.length cap') ∧ Hid (r = sha2 l) ∧ Hid (OwnB w' w.heap.size a' cap' r) ∧ Hid (Below w.heap.size w w')) := by
        have h := rbytes_any (some ⟨Gh, 0, none⟩) 8 (st2 LL J).list w.heap.size u HH.out (by rw [listS8]; decide)
        rw [listS8] at h
        refine h.mono ?_
        rintro e w' ⟨a', cap', r, rfl, hr, ho, hb⟩
        exact ⟨a', cap', r, rfl, (by show _ = _; rw [hr.out, HSH.out, HST.out]), ho.base HBW.out.size, HBW.out.trans (hb.mono HBW.out.size)⟩
      clear HH HWK HBW HKR
      go_wp2_with fail
      refine HRB.out.mono ?_
      rintro e w' ⟨a', cap', r, rfl, hr, ho, hb⟩
      go_wp2
      go_ret
      exact ⟨a', cap', r, rfl, hr, ho, hb⟩
#print axioms rsha2_any
end Go.Proofs.YthhcaalafacjlaaDoor
end
