/-
  copy INTO AN ARRAY OF ONE's OWN; how the number of bits is laid into the last block.; THE WALK of digest's eachBlock with the function number 1 that it is handed.; THE WALK of digest's eachBlock with the function number 2 that it is handed.; THE WALK of digest's putWords.; THE WALKS of digest's Sha1, (long).finish and Sha256.
-/
import Derived.Test.YtegbcjfceooflaaDoorPkWptsah
import Derived.Laws.CopyOwn
section
set_option linter.unusedVariables false
namespace Go.Proofs.YtegbcjfceooflaaDoor
open Go.RowKit

/-- copy(last[:], b), last an array in a block of its own. -/
theorem wpL_copy {ops : Array Oper} {rest : List Oper} {o : Oper} {a : Act} {w : World} {Q : Exit → Act → World → Prop} (hgd : o.guard = none) (d s : Operand)
    (ho : o.op = .call { callee := .builtin .copy, args := #[d, s], argTypes := #[23, 23] })
    (C n cap : Nat) (hd : a.eval d = .slice (some ⟨C, 0, none⟩) n cap) (a2 : Option Addr) (cap2 k : Nat) (l : List UInt8) (hs : a.eval s = .slice a2 k cap2) (hk : k = l.length)
    (t : TypeId) (old : List UInt8) (hc : Cel w C t (bs old)) (hn : old.length = n) (hl : l.length ≤ n) (hrow : Row w a2 l)
    (h : ∀ w', Cel w' C t (bs (l ++ old.drop l.length)) → w.grownBy w' (some C) → wpList Tryd.prog ops Q rest (a.put o.dst (.int .i64 (l.length : Int))) w') : wpList Tryd.prog ops Q (o :: rest) a w := by
  subst hk
  have hsz : (Tryd.prog.info? 5).map (·.size) = some 1 := by kernel_rfl
  by_cases h0 : l = []
  · subst h0
    refine wpList_copy_nothing hgd d s _ _ ho 5 Tryd.underlying23 hsz _ _ _ _ _ _ hd hs (by simp) ?_
    exact h w (by simpa using hc) ⟨rfl, rfl, rfl, Nat.le_refl _, fun _ _ _ => rfl⟩
  · obtain ⟨b, off, rfl, hcell⟩ := hrow h0
    refine wpList_copy_own hgd d s _ _ ho 5 Tryd.underlying23 hsz C 0 n cap ⟨b, off, none⟩ l.length cap2 hd hs (bs old).toArray t hc (bs l) (by rw [bs_length]; exact (Nat.min_eq_left hl).symm) ?_ (by simp [bs_length]; omega) (bs_one l) ?_
    · intro j v hv
      have hj : j < l.length := by
        have := (List.getElem?_eq_some_iff.1 hv).1
        simpa [bs_length] using this
      rw [bs_get l j hj] at hv
      obtain rfl := Option.some.inj hv
      rw [addr_add]
      exact hcell j hj
    · have e : (goInt (bs l).length) = .int .i64 (l.length : Int) := by rw [bs_length]; rfl
      rw [e]
      have e2 : ((bs old).toArray.toList.take 0 ++ (bs l ++ (bs old).toArray.toList.drop (0 + (bs l).length))) = bs (l ++ old.drop l.length) := by
        simp [bs, List.map_drop]
      rw [e2]
      exact h _ (hc.setRow _) (setRow_grown w C _)

def slen : Value → Nat
  | .slice _ n _ => n
  | _ => 0
/-- The bits' number, byte by byte from the end. -/
def cw (n : Nat) (b : List UInt8) : Nat → List UInt8
  | 0 => b
  | i + 1 => (cw n b i).set (63 - i) (UInt8.ofNat (n / 2 ^ (8 * i)))
theorem cw_length (n : Nat) (b : List UInt8) : ∀ i, (cw n b i).length = b.length
  | 0 => rfl
  | i + 1 => by simp [cw, cw_length n b i]
theorem cw_all (n : Nat) (p : List UInt8) (hp : p.length = 56) : cw n (p ++ noughts 8) 8 = p ++ cnt8 n := by
  have e : ∀ (q : List UInt8) (i : Nat) (x : UInt8), i < 8 → (p ++ q).set (56 + i) x = p ++ q.set i x := by
    intro q i x hi
    rw [List.set_append_right _ _ (by omega)]
    congr 2
    omega
  have e' : ∀ (q : List UInt8) (k i : Nat) (x : UInt8), i < 8 → k = 56 + i → (p ++ q).set k x = p ++ q.set i x := by
    intro q k i x hi hk
    subst hk
    exact e q i x hi
  simp only [cw]
  rw [e' _ 63 7 _ (by omega) rfl, e' _ (63 - 1) 6 _ (by omega) rfl, e' _ (63 - 2) 5 _ (by omega) rfl, e' _ (63 - 3) 4 _ (by omega) rfl, e' _ (63 - 4) 3 _ (by omega) rfl, e' _ (63 - 5) 2 _ (by omega) rfl, e' _ (63 - 6) 1 _ (by omega) rfl, e' _ (63 - 7) 0 _ (by omega) rfl]
  simp [noughts, List.replicate, cnt8]
theorem by_shr (n i : Nat) : (((n : Int) / 2 ^ (8 * i)) % 256 : Int) = ((UInt8.ofNat (n / 2 ^ (8 * i))).toNat : Int) := by
  simp

/-- The block that the last bytes, a bit and noughts make. -/
def lst1 (r : List UInt8) : List UInt8 := (r ++ (noughts 64).drop r.length).set r.length 128
theorem lst1_length (r : List UInt8) (h : r.length < 64) : (lst1 r).length = 64 := by simp [lst1, noughts]; omega
theorem lst1_eq (r : List UInt8) (h : r.length < 64) : lst1 r = r ++ 128 :: noughts (63 - r.length) := by
  unfold lst1
  rw [List.set_append_right _ _ (Nat.le_refl _), Nat.sub_self]
  have e : (noughts 64).drop r.length = noughts (64 - r.length) := by unfold noughts; exact List.drop_replicate
  have e2 : noughts (64 - r.length) = 0 :: noughts (63 - r.length) := by
    unfold noughts
    rw [← List.replicate_succ]
    congr 1
    omega
  rw [e, e2]
  rfl
theorem ends_long (n : Nat) (r : List UInt8) (h : 56 ≤ r.length) (h2 : r.length < 64) : ends n r = [lst1 r, cw n (noughts 64) 8] := by
  rw [ends, if_pos h, lst1_eq r h2]
  have : noughts 64 = noughts 56 ++ noughts 8 := by decide
  rw [this, cw_all n _ (by decide)]
theorem ends_short (n : Nat) (r : List UInt8) (h : r.length < 56) : ends n r = [cw n (lst1 r) 8] := by
  rw [ends, if_neg (by omega), lst1_eq r (by omega)]
  have e : noughts (63 - r.length) = noughts (55 - r.length) ++ noughts 8 := by
    unfold noughts
    rw [List.replicate_append_replicate]
    congr 1
    omega
  have e2 : r ++ 128 :: noughts (63 - r.length) = (r ++ 128 :: noughts (55 - r.length)) ++ noughts 8 := by rw [e]; simp
  rw [e2, cw_all n _ (by simp [noughts]; omega)]
  simp
#print axioms ends_short
end Go.Proofs.YtegbcjfceooflaaDoor
end
section
set_option linter.unusedVariables false
namespace Go.Proofs.YtegbcjfceooflaaDoor
open Go.RowKit

/-- Behind copy and the bit. -/
theorem eb_mid {t : TypeId} {L S : Nat} {us' : List Value} {r : List UInt8} {w w2 w3 : World} (hC3 : Cel w3 L 74 (bs (r ++ (noughts 64).drop r.length))) (hg3 : w2.grownBy w3 (some L)) (hS : Cel w2 S t us') (hT : Tb w2) (hg : w.grownBy w2 (some S)) (hlt : S < L) (hge : w.heap.size ≤ L) (hl4 : 2 ≤ L) :
    Hid (Cel (w3.setCell ⟨L, r.length, none⟩ (.int .u8 128)) L 74 (bs (lst1 r))) ∧ Hid (Cel (w3.setCell ⟨L, r.length, none⟩ (.int .u8 128)) S t us') ∧ Hid (Tb (w3.setCell ⟨L, r.length, none⟩ (.int .u8 128))) ∧ Hid (w.grownBy (w3.setCell ⟨L, r.length, none⟩ (.int .u8 128)) (some S)) :=
  ⟨hC3.setB' r.length 128 128 rfl, (hS.grown hg3 (fun e => Nat.ne_of_gt hlt (Option.some.inj e))).other _ _ (Nat.ne_of_lt hlt), (hT.grown hg3 hl4).grown (cg_set _ ⟨L, r.length, none⟩ _) hl4, cg_new (cg_new hg hge hg3) hge (cg_set _ ⟨L, r.length, none⟩ _)⟩

set_option maxRecDepth 1000000 in
set_option maxHeartbeats 4000000 in
theorem eb1_any (σ : Type) (lst : σ → List UInt32) (f : σ → List UInt8 → σ) (S : Nat)
    (hclo : ∀ (s : σ) (m : List UInt8) (w : World), m.length = 64 → Cel w S 71 (us (lst s)) → Tb w → Calls Tryd.prog 36 #[.agg (bs m).toArray, .pointer (some ⟨S, 0, none⟩)] w fun e w' => e = .returned (.tuple #[]) ∧ Hid (Cel w' S 71 (us (lst (f s m)))) ∧ Hid (w.grownBy w' (some S)))
    (A : Nat) (a : Option Addr) (cap : Nat) (l : List UInt8) (w : World) (s : σ) (hB : Bs w a cap l) (hne : l ≠ [] → blk a ≠ some S) (hl : l.length ≤ 1000000) (hA : A ≤ 64) (h4 : 2 ≤ S) (hS : Cel w S 71 (us (lst s))) (hT : Tb w) :
    Calls Tryd.prog 35 #[.int .i64 (A : Int), .slice a l.length cap, .func (.func 36) #[] #[.pointer (some ⟨S, 0, none⟩)]] w
      fun e w' => e = .returned (.tuple #[]) ∧ Hid (Cel w' S 71 (us (lst ((blks ((A + l.length) * 8) l).foldl f s)))) ∧ Hid (w.grownBy w' (some S)) := by
  obtain ⟨NB, hNB⟩ : ∃ n, n = (A + l.length) * 8 := ⟨_, rfl⟩
  rw [← hNB]
  have hq : ((A : Int) + (l.length : Int)) * 8 = (NB : Int) := by omega
  have hNBl : (NB : Int) ≤ 8000512 := by omega
  have HCL := hide hclo
  have HB := hide hB
  have HN := hide hne
  have HS := hide hS
  have HT := hide hT
  have H4 := hide h4
  have hmost : l.length ≤ cap ∧ cap ≤ maxLen := ⟨hB.le, hB.most⟩
  have HMO := hide hmost
  clear hclo hB hne hS hT h4 hNB hmost
  go_enter Tryd.func35, Tryd.ntmps35
  go_wp2
  go_loopw [1] (fun v wr => ∃ (ax : Option Addr) (cx : Nat) (r : List UInt8) (st : σ), v = .slice ax r.length cx ∧ r.length ≤ l.length ∧ Hid (Bs wr ax cx r) ∧ Hid (blk ax = blk a) ∧ Hid ((blks NB r).foldl f st = (blks NB l).foldl f s) ∧ Hid (Cel wr S 71 (us (lst st))) ∧ Hid (Tb wr) ∧ Hid (w.grownBy wr (some S))) (fun v _ => slen v)
  case atStart => exact ⟨a, cap, l, s, rfl, Nat.le_refl _, HB, rfl, rfl, HS, HT, ⟨rfl, rfl, rfl, Nat.le_refl _, fun _ _ _ => rfl⟩⟩
  case round =>
    obtain ⟨ax, cx, r, st, rfl, hrl, hB, hbk, hfo, hS, hT, hg⟩ := hrel
    by_cases hlt : 64 ≤ r.length
    · have hrow : r ≠ [] → ∃ b off, ax = some ⟨b, off, none⟩ := fun h => by obtain ⟨b, off, e, _⟩ := hB.out.row h; exact ⟨b, off, e⟩
      obtain ⟨xh, hh, hhB, hhb⟩ := cut_head ax r.length cx 64 r hlt hB.out.le hrow
      obtain ⟨xt, ht, htB, htb⟩ := cut_tail ax cx 64 r hB.out.le hlt hrow
      have hh' : ∀ w, (Instr.slice 23 (.slice ax r.length cx) none (some (.int .i64 64)) none).run Tryd.prog w = .ok (.slice xh 64 cx) w := hh
      have ht' : ∀ w, (Instr.slice 23 (.slice ax r.length cx) (some (.int .i64 64)) none none).run Tryd.prog w = .ok (.slice xt (r.length - 64) (cx - 64)) w := ht
      have htk : (r.take 64).length = 64 := by simp; omega
      obtain ⟨b, off, hxh, hcell⟩ := (hhB wr hB.out).row (by intro e; rw [e] at htk; simp at htk)
      subst hxh
      have hsp : ∀ (wx : World) (c : Nat), (Instr.arrayAt 74 (.slice (some ⟨b, off, none⟩) 64 c)).run Tryd.prog wx = .ok (.pointer (some ⟨b, off, none⟩)) wx := by
        intro wx c
        simp [Instr.arrayAt, run_underlying Tryd.underlying74]
      have HR : Hid (wr.rangeAt b off (bs (r.take 64))) := by
        intro j v hv
        have hj : j < (r.take 64).length := by
          have := (List.getElem?_eq_some_iff.1 hv).1
          simpa [bs_length] using this
        rw [bs_get _ j hj] at hv
        obtain rfl := Option.some.inj hv
        exact hcell j hj
      have HTK := hide htk
      have HFO : Hid ((blks NB (r.drop 64)).foldl f (f st (r.take 64)) = (blks NB l).foldl f s) := by
        show _ = _
        rw [← hfo.out, blks_go NB r hlt, List.foldl_cons]
      have HXT := hide (htB wr hB.out)
      have HTB := hide (htb.trans hbk.out)
      have hm := hB.out.le
      clear hrow hh ht hhB htB hhb htb htk hcell hB hbk hfo
      go_wp2_with (first | refine wpList_load_mid rfl 74 _ rfl b off rfl _ _ HR.out Tryd.underlying74 rfl (by rw [bs_length, HTK.out]; kernel_rfl) ?_ | (go_at_call 36; refine (HCL.out st (r.take 64) _ HTK.out hS.out hT.out).mono ?_; rintro e w2 ⟨rfl, hS2, hg2⟩))
      go_roundw
      case rel =>
        refine ⟨xt, cx - 64, r.drop 64, f st (r.take 64), by rw [List.length_drop], by rw [List.length_drop]; omega, HXT.out.grown hg2.out (.inr (by rw [HTB.out]; exact HN.out (by intro e; rw [e, List.length_nil] at hrl; omega))), HTB, HFO, hS2, hT.out.grown hg2.out H4.out, cg_trans hg.out hg2.out⟩
      case measure => simp [slen]; omega
    · have hlt' : r.length < 64 := by omega
      have hi : (0 : Int) ≤ (r.length : Int) := by omega
      have hi2 : (r.length : Int) < 64 := by omega
      have HLT := hide hS.out.lt
      have HGE := hide hg.out.size
      have HL4 : Hid (2 ≤ wr.heap.size) := hT.out.big
      have hne : ∀ o, Row (wr.alloc o) ax r := fun o => hB.out.row.alloc o
      have HRO := hide hne
      clear hne
      have hll := lst1_length r hlt'
      have HLL := hide hll
      clear hll
      by_cases h56 : 56 ≤ r.length
      · have HB0 : Hid ((noughts 64).length = 64) := (by decide : (noughts 64).length = 64)
        go_wp2_with (first
          | (refine wpL_copy rfl _ _ rfl wr.heap.size 64 _ rfl ax cx _ r rfl rfl 74 (noughts 64) (Cel.new' wr _ (bs (noughts 64)) _ rfl) rfl (Nat.le_of_lt hlt') (HRO.out _) ?_; intro w3 hC3 hg3; have cS := hC3.byte r.length (by simp [noughts]; omega); have fS := hC3.fr r.length; obtain ⟨HC4, HS4, HT4, HG4⟩ := eb_mid hC3 hg3 (hS.out.alloc _) (hT.out.below ((Below.refl wr.heap.size wr).alloc (Nat.le_refl _) _) hT.out.big) (cg_trans hg.out (cg_alloc wr _ _)) HLT.out HGE.out HL4.out; clear hC3 hg3)
          | refine wpL_load rfl 74 _ rfl _ rfl 74 _ _ _ HC4.out Tryd.underlying74 (by rw [bs_length, HLL.out]; kernel_rfl) ?_
          | (go_at_call 36; refine (HCL.out st (lst1 r) _ HLL.out HS4.out HT4.out).mono ?_; rintro e w4 ⟨rfl, hS4, hg4⟩; have HC45 := hide (HC4.out.grown hg4.out (fun e => Nat.ne_of_lt HLT.out (Option.some.inj e))))
          | (refine wpL_store rfl 74 _ _ rfl _ rfl (bs (noughts 64)) rfl 74 _ HC45.out (by rw [bs_length, bs_length]; exact HLL.out) (by kernel_rfl) (bs_one' _) ?_; intro w5 hC5 hg5; have HC5 := hide hC5; have HS5 := hide (hS4.out.grown hg5 (fun e => Nat.ne_of_gt HLT.out (Option.some.inj e))); have HT5 := hide ((HT4.out.grown hg4.out H4.out).grown hg5 HL4.out); have HG5 := hide (cg_new (cg_trans HG4.out hg4.out) HGE.out hg5); clear hC5 hg5))
        go_loopw [39] (fun v wq => ∃ i : Nat, i ≤ 8 ∧ v = .int .i64 (i : Int) ∧ Hid (Cel wq wr.heap.size 74 (bs (cw NB (noughts 64) i))) ∧ Hid (Cel wq S 71 (us (lst (f st (lst1 r))))) ∧ Hid (Tb wq) ∧ Hid (w.grownBy wq (some S))) (fun v _ => 8 - (intOf v).toNat)
        case atStart => exact ⟨0, Nat.zero_le _, rfl, HC5, HS5, HT5, HG5⟩
        case round =>
          clear HC5 HS5 HT5 HG5
          obtain ⟨i, hi8, rfl, hC, hS, hT, hG⟩ := hrel
          have hcl : (cw NB (noughts 64) i).length = 64 := by rw [cw_length]; exact HB0.out
          by_cases hi' : i < 8
          · obtain ⟨P, hP⟩ : ∃ P, P = 63 - i := ⟨_, rfl⟩
            obtain ⟨M, hM⟩ : ∃ M, M = 8 * i := ⟨_, rfl⟩
            have qP : (63 : Int) - (i : Int) = (P : Int) := by omega
            have qM : (8 : Int) * (i : Int) = (M : Int) := by omega
            have hP64 : (P : Int) < 64 := by omega
            have hM64 : (M : Int) < 64 := by omega
            have cS := hC.out.byte P (by rw [hcl]; omega)
            have fS := hC.out.fr P
            have HX : Hid (cw NB (noughts 64) (i + 1) = (cw NB (noughts 64) i).set P (UInt8.ofNat (NB / 2 ^ M))) := by show _ = _; rw [hP, hM]; rfl
            have HM2 := hide hM
            clear hP hM hcl
            go_wp2
            go_roundw
            case rel =>
              refine ⟨i + 1, by omega, by go_num, ?_, hS.out.other _ _ (Nat.ne_of_lt HLT.out), hT.out.grown (cg_set _ ⟨_, P, none⟩ _) HL4.out, cg_new hG.out HGE.out (cg_set _ ⟨_, P, none⟩ _)⟩
              rw [HX.out]
              refine hC.out.setB' P _ _ ?_
              rw [HM2.out]
              exact by_shr NB i
            case measure => simp [intOf]; omega
          · obtain rfl : i = 8 := by omega
            have HCL8 := hide hcl
            clear hcl
            go_wp2_with (first | refine wpL_load rfl 74 _ rfl _ rfl 74 _ _ _ hC.out Tryd.underlying74 (by rw [bs_length, HCL8.out]; kernel_rfl) ?_ | (go_at_call 36; refine (HCL.out (f st (lst1 r)) (cw NB (noughts 64) 8) _ HCL8.out hS.out hT.out).mono ?_; rintro e w7 ⟨rfl, hS7, hg7⟩))
            go_end0
            refine ⟨rfl, ?_, cg_trans hG.out hg7.out⟩
            rw [← hfo.out, blks_end NB r hlt', ends_long NB r h56 hlt']
            exact hS7
      · have HB0 := HLL
        have h56' : ¬ (56 : Int) ≤ (r.length : Int) := by omega
        go_wp2_with (first
          | (refine wpL_copy rfl _ _ rfl wr.heap.size 64 _ rfl ax cx _ r rfl rfl 74 (noughts 64) (Cel.new' wr _ (bs (noughts 64)) _ rfl) rfl (Nat.le_of_lt hlt') (HRO.out _) ?_; intro w3 hC3 hg3; have cS := hC3.byte r.length (by simp [noughts]; omega); have fS := hC3.fr r.length; obtain ⟨HC5, HS5, HT5, HG5⟩ := eb_mid hC3 hg3 (hS.out.alloc _) (hT.out.below ((Below.refl wr.heap.size wr).alloc (Nat.le_refl _) _) hT.out.big) (cg_trans hg.out (cg_alloc wr _ _)) HLT.out HGE.out HL4.out; clear hC3 hg3))
        go_loopw [39] (fun v wq => ∃ i : Nat, i ≤ 8 ∧ v = .int .i64 (i : Int) ∧ Hid (Cel wq wr.heap.size 74 (bs (cw NB (lst1 r) i))) ∧ Hid (Cel wq S 71 (us (lst st))) ∧ Hid (Tb wq) ∧ Hid (w.grownBy wq (some S))) (fun v _ => 8 - (intOf v).toNat)
        case atStart => exact ⟨0, Nat.zero_le _, rfl, HC5, HS5, HT5, HG5⟩
        case round =>
          clear HC5 HS5 HT5 HG5
          obtain ⟨i, hi8, rfl, hC, hS, hT, hG⟩ := hrel
          have hcl : (cw NB (lst1 r) i).length = 64 := by rw [cw_length]; exact HB0.out
          by_cases hi' : i < 8
          · obtain ⟨P, hP⟩ : ∃ P, P = 63 - i := ⟨_, rfl⟩
            obtain ⟨M, hM⟩ : ∃ M, M = 8 * i := ⟨_, rfl⟩
            have qP : (63 : Int) - (i : Int) = (P : Int) := by omega
            have qM : (8 : Int) * (i : Int) = (M : Int) := by omega
            have hP64 : (P : Int) < 64 := by omega
            have hM64 : (M : Int) < 64 := by omega
            have cS := hC.out.byte P (by rw [hcl]; omega)
            have fS := hC.out.fr P
            have HX : Hid (cw NB (lst1 r) (i + 1) = (cw NB (lst1 r) i).set P (UInt8.ofNat (NB / 2 ^ M))) := by show _ = _; rw [hP, hM]; rfl
            have HM2 := hide hM
            clear hP hM hcl
            go_wp2
            go_roundw
            case rel =>
              refine ⟨i + 1, by omega, by go_num, ?_, hS.out.other _ _ (Nat.ne_of_lt HLT.out), hT.out.grown (cg_set _ ⟨_, P, none⟩ _) HL4.out, cg_new hG.out HGE.out (cg_set _ ⟨_, P, none⟩ _)⟩
              rw [HX.out]
              refine hC.out.setB' P _ _ ?_
              rw [HM2.out]
              exact by_shr NB i
            case measure => simp [intOf]; omega
          · obtain rfl : i = 8 := by omega
            have HCL8 := hide hcl
            clear hcl
            go_wp2_with (first | refine wpL_load rfl 74 _ rfl _ rfl 74 _ _ _ hC.out Tryd.underlying74 (by rw [bs_length, HCL8.out]; kernel_rfl) ?_ | (go_at_call 36; refine (HCL.out st (cw NB (lst1 r) 8) _ HCL8.out hS.out hT.out).mono ?_; rintro e w7 ⟨rfl, hS7, hg7⟩))
            go_end0
            refine ⟨rfl, ?_, cg_trans hG.out hg7.out⟩
            rw [← hfo.out, blks_end NB r hlt', ends_short NB r (by omega)]
            exact hS7
#print axioms eb1_any
end Go.Proofs.YtegbcjfceooflaaDoor
end
section
set_option linter.unusedVariables false
namespace Go.Proofs.YtegbcjfceooflaaDoor
open Go.RowKit

end Go.Proofs.YtegbcjfceooflaaDoor
end
section
set_option linter.unusedVariables false
namespace Go.Proofs.YtegbcjfceooflaaDoor
open Go.RowKit

/-- The first k words laid as bytes. -/
def pwl (l : List UInt32) (old : List UInt8) : Nat → List UInt8
  | 0 => old
  | k + 1 => ((((pwl l old k).set (4 * k) (UInt8.ofNat ((l.getD k 0).toNat / 16777216))).set (4 * k + 1) (UInt8.ofNat ((l.getD k 0).toNat / 65536))).set (4 * k + 2) (UInt8.ofNat ((l.getD k 0).toNat / 256))).set (4 * k + 3) (UInt8.ofNat (l.getD k 0).toNat)
theorem pwl_length (l : List UInt32) (old : List UInt8) : ∀ k, (pwl l old k).length = old.length
  | 0 => rfl
  | k + 1 => by simp [pwl, pwl_length l old k]
theorem pwl_eq (l : List UInt32) (old : List UInt8) (h : old.length = 4 * l.length) : ∀ k, k ≤ l.length → pwl l old k = byts (l.take k) ++ old.drop (4 * k)
  | 0, _ => by simp [pwl, byts]
  | k + 1, hk => by
    have ih := pwl_eq l old h k (by omega)
    have hb : (byts (l.take k)).length = 4 * k := by rw [byts_length]; simp; omega
    have hd : ∃ a b c d r, old.drop (4 * k) = a :: b :: c :: d :: r ∧ old.drop (4 * (k + 1)) = r := by
      have e1 := List.drop_eq_getElem_cons (l := old) (i := 4 * k) (by omega)
      have e2 := List.drop_eq_getElem_cons (l := old) (i := 4 * k + 1) (by omega)
      have e3 := List.drop_eq_getElem_cons (l := old) (i := 4 * k + 1 + 1) (by omega)
      have e4 := List.drop_eq_getElem_cons (l := old) (i := 4 * k + 1 + 1 + 1) (by omega)
      exact ⟨_, _, _, _, _, by rw [e1, e2, e3, e4], by congr 1⟩
    obtain ⟨a, b, c, d, r, h1, h2⟩ := hd
    have e : ∀ (q : List UInt8) (i j : Nat) (x : UInt8), j = 4 * k + i → (byts (l.take k) ++ q).set j x = byts (l.take k) ++ q.set i x := by
      intro q i j x hj
      subst hj
      rw [List.set_append_right _ _ (by omega)]
      congr 2
      omega
    have hx : l.getD k 0 = l[k] := by simp [show k < l.length by omega]
    have ht : byts (l.take (k + 1)) = byts (l.take k) ++ by4 l[k] := by
      rw [List.take_succ_eq_append_getElem (by omega), byts, byts, List.flatMap_append]
      simp
    rw [pwl, ih, h1, e _ 0 (4 * k) _ (by omega), e _ 1 _ _ rfl, e _ 2 _ _ rfl, e _ 3 _ _ rfl, ht, h2, hx]
    simp [by4]
theorem pwl_all (l : List UInt32) (old : List UInt8) (h : old.length = 4 * l.length) : pwl l old l.length = byts l := by
  rw [pwl_eq l old h _ (Nat.le_refl _)]
  simp [h]

set_option maxRecDepth 1000000 in
set_option maxHeartbeats 2000000 in
theorem pw_any (D S : Nat) (tD tS : TypeId) (l : List UInt32) (old : List UInt8) (n c1 c2 : Nat) (w : World) (hD : Cel w D tD (bs old)) (hS : Cel w S tS (us l)) (hne : D ≠ S) (ho : old.length = 4 * l.length) (hn : n = 4 * l.length) (hl : l.length ≤ 8) :
    Calls Tryd.prog 38 #[.slice (some ⟨D, 0, none⟩) n c1, .slice (some ⟨S, 0, none⟩) l.length c2] w
      fun e w' => e = .returned (.tuple #[]) ∧ Hid (Cel w' D tD (bs (byts l))) ∧ Hid (w.grownBy w' (some D)) := by
  have HD := hide hD
  have HS := hide hS
  have HO := hide ho
  have HNE := hide hne
  have HN := hide hn
  clear hD hS ho hne hn
  go_enter Tryd.func38, Tryd.ntmps38
  go_wp2
  go_loopw [8] (fun v wr => ∃ k : Nat, k ≤ l.length ∧ v = .int .i64 (k : Int) ∧ Hid (Cel wr D tD (bs (pwl l old k))) ∧ Hid (Cel wr S tS (us l)) ∧ Hid (w.grownBy wr (some D))) (fun v _ => l.length - (intOf v).toNat)
  case atStart => exact ⟨0, Nat.zero_le _, rfl, HD, HS, ⟨rfl, rfl, rfl, Nat.le_refl _, fun _ _ _ => rfl⟩⟩
  case round =>
    clear HD HS
    obtain ⟨k, hk, rfl, hD, hS, hg⟩ := hrel
    by_cases hlt : k < l.length
    · have hpl := pwl_length l old k
      have ho := HO.out
      have hn := HN.out
      have cx := hS.out.word k hlt
      have d0 := hD.out.byte (4 * k) (by omega)
      have d1 := hD.out.byte (4 * k + 1) (by omega)
      have d2 := hD.out.byte (4 * k + 2) (by omega)
      have d3 := hD.out.byte (4 * k + 3) (by omega)
      have f0 := hD.out.fr (4 * k)
      have f1 := hD.out.fr (4 * k + 1)
      have f2 := hD.out.fr (4 * k + 2)
      have f3 := hD.out.fr (4 * k + 3)
      have HX : Hid (pwl l old (k + 1) = ((((pwl l old k).set (4 * k) (UInt8.ofNat ((l.getD k 0).toNat / 16777216))).set (4 * k + 1) (UInt8.ofNat ((l.getD k 0).toNat / 65536))).set (4 * k + 2) (UInt8.ofNat ((l.getD k 0).toNat / 256))).set (4 * k + 3) (UInt8.ofNat (l.getD k 0).toNat)) := rfl
      generalize l.getD k 0 = x at *
      have hb : 4 * (k : Int) + 3 < (n : Int) := by omega
      clear hpl ho hn
      go_wp2
      go_roundw
      case rel =>
        refine ⟨k + 1, by omega, by go_num, ?_, (((hS.out.other _ _ (Ne.symm HNE.out)).other _ _ (Ne.symm HNE.out)).other _ _ (Ne.symm HNE.out)).other _ _ (Ne.symm HNE.out), cg_trans (cg_trans (cg_trans (cg_trans hg.out (cg_set _ ⟨D, 4 * k, none⟩ _)) (cg_set _ ⟨D, 4 * k + 1, none⟩ _)) (cg_set _ ⟨D, 4 * k + 2, none⟩ _)) (cg_set _ ⟨D, 4 * k + 3, none⟩ _)⟩
        rw [HX.out]
        exact (((hD.out.setB' (4 * k) _ _ (by simp)).setB' (4 * k + 1) _ _ (by simp)).setB' (4 * k + 2) _ _ (by simp)).setB' (4 * k + 3) _ _ (by simp)
      case measure => simp [intOf]; omega
    · obtain rfl : k = l.length := by omega
      go_wp2
      go_end0
      refine ⟨rfl, ?_, hg⟩
      rw [← pwl_all l old HO.out]
      exact hD
#print axioms pw_any
end Go.Proofs.YtegbcjfceooflaaDoor
end
section
set_option linter.unusedVariables false
namespace Go.Proofs.YtegbcjfceooflaaDoor
open Go.RowKit

theorem Tb.rng1 {w : World} (h : Tb w) : w.rangeAt 0 0 (us ini1.list) := by
  intro j v hv
  have hj : j < ini1.list.length := by
    have := (List.getElem?_eq_some_iff.1 hv).1
    simpa [us_length] using this
  rw [us_get _ j hj] at hv
  obtain rfl := Option.some.inj hv
  rw [Nat.zero_add]
  exact h.i1 j hj
theorem Cel.newAt' (w : World) (t : TypeId) (vs : List Value) (n : Nat) (c : Array Value) (h : w.heap.size = n) (hc : c = vs.toArray) : Cel (w.alloc (.cells c t)) n t vs := by subst h; subst hc; exact heap_alloc_new w _
theorem Tb.alloc {w : World} (h : Tb w) (o : Obj) : Tb (w.alloc o) := h.below ((Below.refl w.heap.size w).alloc (Nat.le_refl _) o) h.big

set_option maxRecDepth 1000000 in
set_option maxHeartbeats 2000000 in
theorem sha1_any (a : Option Addr) (cap : Nat) (l : List UInt8) (w : World) (hB : Bs w a cap l) (hl : l.length ≤ 1000000) (hT : Tb w) :
    Calls Tryd.prog 17 #[.slice a l.length cap] w fun e w' => e = .returned (.agg (bs (sha1 l)).toArray) ∧ Below w.heap.size w w' := by
  obtain ⟨s2, hs2⟩ : ∃ s2, (blks ((0 + l.length) * 8) l).foldl beh1 ini1 = s2 := ⟨_, rfl⟩
  have e2 : sha1 l = byts s2.list := by rw [← hs2]; rfl
  rw [e2]
  have HE := hide hs2
  clear e2 hs2
  have hlen : (byts s2.list).length = 20 := by rw [byts_length, listS5]
  have HLN := hide hlen
  have HB := hide hB
  have HT := hide hT
  have HNE : Hid (l ≠ [] → blk a ≠ some (w.heap.size + 1)) := fun h e => by have := hB.row.lt h _ e; omega
  have hmf : ∀ (fn : Fn) (first cap : Array Value) (w : World), (Instr.makeFunc fn first cap).run Tryd.prog w = .ok (.func fn first cap) w := fun _ _ _ _ => rfl
  obtain ⟨S0, hS0⟩ : ∃ s : S5, s = ini1 := ⟨_, rfl⟩
  rw [← hS0] at HE
  have HRG : Hid (∀ o, (w.alloc o).rangeAt 0 0 (us S0.list)) := fun o => by rw [hS0]; exact (hT.alloc o).rng1
  clear hlen hB hT hS0
  have h0 : (0 : Int) = ((0 : Nat) : Int) := rfl
  have HEB : Hid (∀ (w3 : World), Bs w3 a cap l → Cel w3 (w.heap.size + 1) 71 (us S0.list) → Tb w3 → Calls Tryd.prog 35 #[.int .i64 0, .slice a l.length cap, .func (.func 36) #[] #[.pointer (some ⟨w.heap.size + 1, 0, none⟩)]] w3
      fun e w' => e = .returned (.tuple #[]) ∧ Hid (Cel w' (w.heap.size + 1) 71 (us s2.list)) ∧ Hid (w3.grownBy w' (some (w.heap.size + 1)))) := by
    intro w3 h1 h2 h3
    have h := eb1_any S5 S5.list beh1 (w.heap.size + 1) (fun s m w hm hS hT => clo1_any _ s m w hm hS hT) 0 a cap l w3 S0 h1 HNE.out hl (by omega) (Nat.le_trans HT.out.big (by omega)) h2 h3
    rw [HE.out] at h
    exact h
  clear h0
  go_enter Tryd.func17, Tryd.ntmps17
  go_wp2_with (first
    | refine wpList_load_mid rfl 71 _ rfl 0 0 rfl _ _ (HRG.out _) Tryd.underlying71 rfl (by rw [us_length, listS5]; exact sizS5) ?_
    | (refine wpL_store rfl 71 _ _ rfl _ rfl (us S0.list) rfl 71 (us [0, 0, 0, 0, 0]) (Cel.newAt' _ _ _ _ _ (by simp) rfl) (by rw [us_length, us_length, listS5]; rfl) (by rw [us_length, listS5]; exact sizS5) (us_one _) ?_; intro w1 hC1 hg1; have HC1 := hide hC1; have HG1 := hide (cg_to_below (cg_new (cg_trans (cg_alloc w _ (some (w.heap.size + 1))) (cg_alloc _ _ _)) (by omega) hg1) (Nat.le_add_right _ 1) (Nat.le_refl _)); have HR1 := hide (((Cel.newAt' w 50 (bs (noughts 20)) w.heap.size _ rfl rfl).alloc _).grown hg1 (by intro e; have := Option.some.inj e; omega)); clear hC1 hg1)
    | (go_at_call 35; refine (HEB.out _ (HB.out.below HG1.out (Nat.le_refl _)) HC1.out (HT.out.below HG1.out HT.out.big)).mono ?_; rintro e w2 ⟨rfl, hS2, hg2⟩; have HR2 := hide (HR1.out.grown hg2.out (by intro e; have := Option.some.inj e; omega)); have HW2 := hide (HG1.out.trans (cg_to_below hg2.out (Nat.le_add_right _ 1) HG1.out.size)); clear hg2))
  have hlt := hS2.out.lt
  have HLT := hide hlt
  have hlt2 := HR2.out.lt
  have HLT2 := hide hlt2
  clear hlt hlt2
  have HPW : Hid (∀ Z : Array Value, Z = (bs (noughts 20)).toArray → Calls Tryd.prog 38 #[.slice (some ⟨w2.heap.size, 0, none⟩) 20 20, .slice (some ⟨w.heap.size + 1, 0, none⟩) 5 5] (w2.alloc (.cells Z 50)).drew
      fun e w' => e = .returned (.tuple #[]) ∧ Hid (Cel w' w2.heap.size 50 (bs (byts s2.list))) ∧ Hid ((w2.alloc (.cells Z 50)).drew.grownBy w' (some w2.heap.size))) := by
    intro Z hZ
    subst hZ
    have h := pw_any w2.heap.size (w.heap.size + 1) 50 71 s2.list (noughts 20) 20 20 5 (w2.alloc (.cells (bs (noughts 20)).toArray 50)).drew (Cel.new w2 _ _) (hS2.out.alloc _) (Nat.ne_of_gt HLT.out) (by rw [listS5]; decide) (by rw [listS5]) (by rw [listS5]; decide)
    rw [listS5 s2] at h
    exact h
  go_region_with (go_at_call 38; refine (HPW.out _ rfl).mono ?_; rintro e w4 ⟨rfl, hD4, hg4⟩; have HR4 := hide (((HR2.out.alloc _).drew).grown hg4.out (by intro e; exact Nat.ne_of_gt HLT2.out (Option.some.inj e))); have HW4 := hide (cg_to_below (cg_new (cg_trans (cg_trans (cg_below HW2.out (some w.heap.size)) (cg_alloc _ _ _)) (cg_drew _ _)) HW2.out.size hg4.out) (Nat.le_refl _) (Nat.le_refl _)))
  all_goals
    go_wp2_with (first
      | refine wpL_load rfl 50 _ rfl _ rfl 50 _ _ _ hD4.out Tryd.underlying50 (by rw [bs_length, HLN.out]; kernel_rfl) ?_
      | (refine wpL_store rfl 50 _ _ rfl _ rfl _ rfl 50 _ HR4.out (by rw [bs_length, bs_length, HLN.out]; rfl) (by rw [bs_length, HLN.out]; kernel_rfl) (bs_one' _) ?_; intro w9 c9 g9))
    exact bodyPost_ret (results_cel rfl _ _ _ _ _ _ _ rfl c9 Tryd.underlying50 (by rw [bs_length, HLN.out]; kernel_rfl)) rfl ⟨rfl, HW4.out.grown g9 (Nat.le_trans (Nat.le_refl _) HW4.out.size) (fun k hk => by cases hk; omega)⟩
end Go.Proofs.YtegbcjfceooflaaDoor
end
