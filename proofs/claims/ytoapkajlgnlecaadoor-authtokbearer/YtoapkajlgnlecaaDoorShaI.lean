/-
  THE WALK of digest's eachBlock with the function number 2 that it is handed.
-/
import Derived.Test.YtoapkajlgnlecaaDoorShaH
set_option linter.unusedVariables false
namespace Go.Proofs.YtoapkajlgnlecaaDoor
open Go.RowKit

set_option maxRecDepth 1000000 in
set_option maxHeartbeats 4000000 in
theorem eb2_any (σ : Type) (lst : σ → List UInt32) (f : σ → List UInt8 → σ) (S : Nat)
    (hclo : ∀ (s : σ) (m : List UInt8) (w : World), m.length = 64 → Cel w S 95 (us (lst s)) → Tb w → Calls Tryd.prog 62 #[.agg (bs m).toArray, .pointer (some ⟨S, 0, none⟩)] w fun e w' => e = .returned (.tuple #[]) ∧ Hid (Cel w' S 95 (us (lst (f s m)))) ∧ Hid (w.grownBy w' (some S)))
    (A : Nat) (a : Option Addr) (cap : Nat) (l : List UInt8) (w : World) (s : σ) (hB : Bs w a cap l) (hne : l ≠ [] → blk a ≠ some S) (hl : l.length ≤ 1000000) (hA : A ≤ 64) (h4 : 3 ≤ S) (hS : Cel w S 95 (us (lst s))) (hT : Tb w) :
    Calls Tryd.prog 61 #[.int .i64 (A : Int), .slice a l.length cap, .func (.func 62) #[] #[.pointer (some ⟨S, 0, none⟩)]] w
      fun e w' => e = .returned (.tuple #[]) ∧ Hid (Cel w' S 95 (us (lst ((blks ((A + l.length) * 8) l).foldl f s)))) ∧ Hid (w.grownBy w' (some S)) := by
  obtain ⟨NB, hNB⟩ : ∃ n, n = (A + l.length) * 8 := ⟨_, rfl⟩
  rw [← hNB]
  have hq : ((A : Int) + (l.length : Int)) * 8 = (NB : Int) := by omega
  have hNBl : (NB : Int) ≤ 8000512 := by omega
  have HCL := hide hclo
  have HB := hide hB
  have HN := hide hne
  have HS := hide hS
  have HT := hide hT
  have H4 := hide h4
  have hmost : l.length ≤ cap ∧ cap ≤ maxLen := ⟨hB.le, hB.most⟩
  have HMO := hide hmost
  clear hclo hB hne hS hT h4 hNB hmost
  go_enter Tryd.func61, Tryd.ntmps61
  go_wp2
  go_loopw [1] (fun v wr => ∃ (ax : Option Addr) (cx : Nat) (r : List UInt8) (st : σ), v = .slice ax r.length cx ∧ r.length ≤ l.length ∧ Hid (Bs wr ax cx r) ∧ Hid (blk ax = blk a) ∧ Hid ((blks NB r).foldl f st = (blks NB l).foldl f s) ∧ Hid (Cel wr S 95 (us (lst st))) ∧ Hid (Tb wr) ∧ Hid (w.grownBy wr (some S))) (fun v _ => slen v)
  case atStart => exact ⟨a, cap, l, s, rfl, Nat.le_refl _, HB, rfl, rfl, HS, HT, ⟨rfl, rfl, rfl, Nat.le_refl _, fun _ _ _ => rfl⟩⟩
  case round =>
    obtain ⟨ax, cx, r, st, rfl, hrl, hB, hbk, hfo, hS, hT, hg⟩ := hrel
    by_cases hlt : 64 ≤ r.length
    · have hrow : r ≠ [] → ∃ b off, ax = some ⟨b, off, none⟩ := fun h => by obtain ⟨b, off, e, _⟩ := hB.out.row h; exact ⟨b, off, e⟩
      obtain ⟨xh, hh, hhB, hhb⟩ := cut_head ax r.length cx 64 r hlt hB.out.le hrow
      obtain ⟨xt, ht, htB, htb⟩ := cut_tail ax cx 64 r hB.out.le hlt hrow
      have hh' : ∀ w, (Instr.slice 23 (.slice ax r.length cx) none (some (.int .i64 64)) none).run Tryd.prog w = .ok (.slice xh 64 cx) w := hh
      have ht' : ∀ w, (Instr.slice 23 (.slice ax r.length cx) (some (.int .i64 64)) none none).run Tryd.prog w = .ok (.slice xt (r.length - 64) (cx - 64)) w := ht
      have htk : (r.take 64).length = 64 := by simp; omega
      obtain ⟨b, off, hxh, hcell⟩ := (hhB wr hB.out).row (by intro e; rw [e] at htk; simp at htk)
      subst hxh
      have hsp : ∀ (wx : World) (c : Nat), (Instr.arrayAt 65 (.slice (some ⟨b, off, none⟩) 64 c)).run Tryd.prog wx = .ok (.pointer (some ⟨b, off, none⟩)) wx := by
        intro wx c
        simp [Instr.arrayAt, run_underlying Tryd.underlying65]
      have HR : Hid (wr.rangeAt b off (bs (r.take 64))) := by
        intro j v hv
        have hj : j < (r.take 64).length := by
          have := (List.getElem?_eq_some_iff.1 hv).1
          simpa [bs_length] using this
        rw [bs_get _ j hj] at hv
        obtain rfl := Option.some.inj hv
        exact hcell j hj
      have HTK := hide htk
      have HFO : Hid ((blks NB (r.drop 64)).foldl f (f st (r.take 64)) = (blks NB l).foldl f s) := by
        show _ = _
        rw [← hfo.out, blks_go NB r hlt, List.foldl_cons]
      have HXT := hide (htB wr hB.out)
      have HTB := hide (htb.trans hbk.out)
      have hm := hB.out.le
      clear hrow hh ht hhB htB hhb htb htk hcell hB hbk hfo
      go_wp2_with (first | refine wpList_load_mid rfl 65 _ rfl b off rfl _ _ HR.out Tryd.underlying65 rfl (by rw [bs_length, HTK.out]; kernel_rfl) ?_ | (go_at_call 62; refine (HCL.out st (r.take 64) _ HTK.out hS.out hT.out).mono ?_; rintro e w2 ⟨rfl, hS2, hg2⟩))
      go_roundw
      case rel =>
        refine ⟨xt, cx - 64, r.drop 64, f st (r.take 64), by rw [List.length_drop], by rw [List.length_drop]; omega, HXT.out.grown hg2.out (.inr (by rw [HTB.out]; exact HN.out (by intro e; rw [e, List.length_nil] at hrl; omega))), HTB, HFO, hS2, hT.out.grown hg2.out H4.out, cg_trans hg.out hg2.out⟩
      case measure => simp [slen]; omega
    · have hlt' : r.length < 64 := by omega
      have hi : (0 : Int) ≤ (r.length : Int) := by omega
      have hi2 : (r.length : Int) < 64 := by omega
      have HLT := hide hS.out.lt
      have HGE := hide hg.out.size
      have HL4 : Hid (3 ≤ wr.heap.size) := hT.out.big
      have hne : ∀ o, Row (wr.alloc o) ax r := fun o => hB.out.row.alloc o
      have HRO := hide hne
      clear hne
      have hll := lst1_length r hlt'
      have HLL := hide hll
      clear hll
      by_cases h56 : 56 ≤ r.length
      · have HB0 : Hid ((noughts 64).length = 64) := (by decide : (noughts 64).length = 64)
        go_wp2_with (first
          | (refine wpL_copy rfl _ _ rfl wr.heap.size 64 _ rfl ax cx _ r rfl rfl 65 (noughts 64) (Cel.new' wr _ (bs (noughts 64)) _ rfl) rfl (Nat.le_of_lt hlt') (HRO.out _) ?_; intro w3 hC3 hg3; have cS := hC3.byte r.length (by simp [noughts]; omega); have fS := hC3.fr r.length; obtain ⟨HC4, HS4, HT4, HG4⟩ := eb_mid hC3 hg3 (hS.out.alloc _) (hT.out.below ((Below.refl wr.heap.size wr).alloc (Nat.le_refl _) _) hT.out.big) (cg_trans hg.out (cg_alloc wr _ _)) HLT.out HGE.out HL4.out; clear hC3 hg3)
          | refine wpL_load rfl 65 _ rfl _ rfl 65 _ _ _ HC4.out Tryd.underlying65 (by rw [bs_length, HLL.out]; kernel_rfl) ?_
          | (go_at_call 62; refine (HCL.out st (lst1 r) _ HLL.out HS4.out HT4.out).mono ?_; rintro e w4 ⟨rfl, hS4, hg4⟩; have HC45 := hide (HC4.out.grown hg4.out (fun e => Nat.ne_of_lt HLT.out (Option.some.inj e))))
          | (refine wpL_store rfl 65 _ _ rfl _ rfl (bs (noughts 64)) rfl 65 _ HC45.out (by rw [bs_length, bs_length]; exact HLL.out) (by kernel_rfl) (bs_one' _) ?_; intro w5 hC5 hg5; have HC5 := hide hC5; have HS5 := hide (hS4.out.grown hg5 (fun e => Nat.ne_of_gt HLT.out (Option.some.inj e))); have HT5 := hide ((HT4.out.grown hg4.out H4.out).grown hg5 HL4.out); have HG5 := hide (cg_new (cg_trans HG4.out hg4.out) HGE.out hg5); clear hC5 hg5))
        go_loopw [39] (fun v wq => ∃ i : Nat, i ≤ 8 ∧ v = .int .i64 (i : Int) ∧ Hid (Cel wq wr.heap.size 65 (bs (cw NB (noughts 64) i))) ∧ Hid (Cel wq S 95 (us (lst (f st (lst1 r))))) ∧ Hid (Tb wq) ∧ Hid (w.grownBy wq (some S))) (fun v _ => 8 - (intOf v).toNat)
        case atStart => exact ⟨0, Nat.zero_le _, rfl, HC5, HS5, HT5, HG5⟩
        case round =>
          clear HC5 HS5 HT5 HG5
          obtain ⟨i, hi8, rfl, hC, hS, hT, hG⟩ := hrel
          have hcl : (cw NB (noughts 64) i).length = 64 := by rw [cw_length]; exact HB0.out
          by_cases hi' : i < 8
          · obtain ⟨P, hP⟩ : ∃ P, P = 63 - i := ⟨_, rfl⟩
            obtain ⟨M, hM⟩ : ∃ M, M = 8 * i := ⟨_, rfl⟩
            have qP : (63 : Int) - (i : Int) = (P : Int) := by omega
            have qM : (8 : Int) * (i : Int) = (M : Int) := by omega
            have hP64 : (P : Int) < 64 := by omega
            have hM64 : (M : Int) < 64 := by omega
            have cS := hC.out.byte P (by rw [hcl]; omega)
            have fS := hC.out.fr P
            have HX : Hid (cw NB (noughts 64) (i + 1) = (cw NB (noughts 64) i).set P (UInt8.ofNat (NB / 2 ^ M))) := by show _ = _; rw [hP, hM]; rfl
            have HM2 := hide hM
            clear hP hM hcl
            go_wp2
            go_roundw
            case rel =>
              refine ⟨i + 1, by omega, by go_num, ?_, hS.out.other _ _ (Nat.ne_of_lt HLT.out), hT.out.grown (cg_set _ ⟨_, P, none⟩ _) HL4.out, cg_new hG.out HGE.out (cg_set _ ⟨_, P, none⟩ _)⟩
              rw [HX.out]
              refine hC.out.setB' P _ _ ?_
              rw [HM2.out]
              exact by_shr NB i
            case measure => simp [intOf]; omega
          · obtain rfl : i = 8 := by omega
            have HCL8 := hide hcl
            clear hcl
            go_wp2_with (first | refine wpL_load rfl 65 _ rfl _ rfl 65 _ _ _ hC.out Tryd.underlying65 (by rw [bs_length, HCL8.out]; kernel_rfl) ?_ | (go_at_call 62; refine (HCL.out (f st (lst1 r)) (cw NB (noughts 64) 8) _ HCL8.out hS.out hT.out).mono ?_; rintro e w7 ⟨rfl, hS7, hg7⟩))
            go_end0
            refine ⟨rfl, ?_, cg_trans hG.out hg7.out⟩
            rw [← hfo.out, blks_end NB r hlt', ends_long NB r h56 hlt']
            exact hS7
      · have HB0 := HLL
        have h56' : ¬ (56 : Int) ≤ (r.length : Int) := by omega
        go_wp2_with (first
          | (refine wpL_copy rfl _ _ rfl wr.heap.size 64 _ rfl ax cx _ r rfl rfl 65 (noughts 64) (Cel.new' wr _ (bs (noughts 64)) _ rfl) rfl (Nat.le_of_lt hlt') (HRO.out _) ?_; intro w3 hC3 hg3; have cS := hC3.byte r.length (by simp [noughts]; omega); have fS := hC3.fr r.length; obtain ⟨HC5, HS5, HT5, HG5⟩ := eb_mid hC3 hg3 (hS.out.alloc _) (hT.out.below ((Below.refl wr.heap.size wr).alloc (Nat.le_refl _) _) hT.out.big) (cg_trans hg.out (cg_alloc wr _ _)) HLT.out HGE.out HL4.out; clear hC3 hg3))
        go_loopw [39] (fun v wq => ∃ i : Nat, i ≤ 8 ∧ v = .int .i64 (i : Int) ∧ Hid (Cel wq wr.heap.size 65 (bs (cw NB (lst1 r) i))) ∧ Hid (Cel wq S 95 (us (lst st))) ∧ Hid (Tb wq) ∧ Hid (w.grownBy wq (some S))) (fun v _ => 8 - (intOf v).toNat)
        case atStart => exact ⟨0, Nat.zero_le _, rfl, HC5, HS5, HT5, HG5⟩
        case round =>
          clear HC5 HS5 HT5 HG5
          obtain ⟨i, hi8, rfl, hC, hS, hT, hG⟩ := hrel
          have hcl : (cw NB (lst1 r) i).length = 64 := by rw [cw_length]; exact HB0.out
          by_cases hi' : i < 8
          · obtain ⟨P, hP⟩ : ∃ P, P = 63 - i := ⟨_, rfl⟩
            obtain ⟨M, hM⟩ : ∃ M, M = 8 * i := ⟨_, rfl⟩
            have qP : (63 : Int) - (i : Int) = (P : Int) := by omega
            have qM : (8 : Int) * (i : Int) = (M : Int) := by omega
            have hP64 : (P : Int) < 64 := by omega
            have hM64 : (M : Int) < 64 := by omega
            have cS := hC.out.byte P (by rw [hcl]; omega)
            have fS := hC.out.fr P
            have HX : Hid (cw NB (lst1 r) (i + 1) = (cw NB (lst1 r) i).set P (UInt8.ofNat (NB / 2 ^ M))) := by show _ = _; rw [hP, hM]; rfl
            have HM2 := hide hM
            clear hP hM hcl
            go_wp2
            go_roundw
            case rel =>
              refine ⟨i + 1, by omega, by go_num, ?_, hS.out.other _ _ (Nat.ne_of_lt HLT.out), hT.out.grown (cg_set _ ⟨_, P, none⟩ _) HL4.out, cg_new hG.out HGE.out (cg_set _ ⟨_, P, none⟩ _)⟩
              rw [HX.out]
              refine hC.out.setB' P _ _ ?_
              rw [HM2.out]
              exact by_shr NB i
            case measure => simp [intOf]; omega
          · obtain rfl : i = 8 := by omega
            have HCL8 := hide hcl
            clear hcl
            go_wp2_with (first | refine wpL_load rfl 65 _ rfl _ rfl 65 _ _ _ hC.out Tryd.underlying65 (by rw [bs_length, HCL8.out]; kernel_rfl) ?_ | (go_at_call 62; refine (HCL.out st (cw NB (lst1 r) 8) _ HCL8.out hS.out hT.out).mono ?_; rintro e w7 ⟨rfl, hS7, hg7⟩))
            go_end0
            refine ⟨rfl, ?_, cg_trans hG.out hg7.out⟩
            rw [← hfo.out, blks_end NB r hlt', ends_short NB r (by omega)]
            exact hS7
#print axioms eb2_any
end Go.Proofs.YtoapkajlgnlecaaDoor
