/-
  THE WALKS of digest's Sha1, (long).finish and Sha256.
-/
import Derived.Test.YtiiafkjdeoabaaaDoorShaJ
set_option linter.unusedVariables false
namespace Go.Proofs.YtiiafkjdeoabaaaDoor
open Go.RowKit

theorem Tb.rng1 {w : World} (h : Tb w) : w.rangeAt 0 0 (us ini1.list) := by
  intro j v hv
  have hj : j < ini1.list.length := by
    have := (List.getElem?_eq_some_iff.1 hv).1
    simpa [us_length] using this
  rw [us_get _ j hj] at hv
  obtain rfl := Option.some.inj hv
  rw [Nat.zero_add]
  exact h.i1 j hj
theorem Cel.newAt' (w : World) (t : TypeId) (vs : List Value) (n : Nat) (c : Array Value) (h : w.heap.size = n) (hc : c = vs.toArray) : Cel (w.alloc (.cells c t)) n t vs := by subst h; subst hc; exact heap_alloc_new w _
theorem Tb.alloc {w : World} (h : Tb w) (o : Obj) : Tb (w.alloc o) := h.below ((Below.refl w.heap.size w).alloc (Nat.le_refl _) o) h.big

set_option maxRecDepth 1000000 in
set_option maxHeartbeats 2000000 in
theorem sha1_any (a : Option Addr) (cap : Nat) (l : List UInt8) (w : World) (hB : Bs w a cap l) (hl : l.length ≤ 1000000) (hT : Tb w) :
    Calls Tryd.prog 17 #[.slice a l.length cap] w fun e w' => e = .returned (.agg (bs (sha1 l)).toArray) ∧ Below w.heap.size w w' := by
  obtain ⟨s2, hs2⟩ : ∃ s2, (blks ((0 + l.length) * 8) l).foldl beh1 ini1 = s2 := ⟨_, rfl⟩
  have e2 : sha1 l = byts s2.list := by rw [← hs2]; rfl
  rw [e2]
  have HE := hide hs2
  clear e2 hs2
  have hlen : (byts s2.list).length = 20 := by rw [byts_length, listS5]
  have HLN := hide hlen
  have HB := hide hB
  have HT := hide hT
  have HNE : Hid (l ≠ [] → blk a ≠ some (w.heap.size + 1)) := fun h e => by have := hB.row.lt h _ e; omega
  have hmf : ∀ (fn : Fn) (first cap : Array Value) (w : World), (Instr.makeFunc fn first cap).run Tryd.prog w = .ok (.func fn first cap) w := fun _ _ _ _ => rfl
  obtain ⟨S0, hS0⟩ : ∃ s : S5, s = ini1 := ⟨_, rfl⟩
  rw [← hS0] at HE
  have HRG : Hid (∀ o, (w.alloc o).rangeAt 0 0 (us S0.list)) := fun o => by rw [hS0]; exact (hT.alloc o).rng1
  clear hlen hB hT hS0
  have h0 : (0 : Int) = ((0 : Nat) : Int) := rfl
  have HEB : Hid (∀ (w3 : World), Bs w3 a cap l → Cel w3 (w.heap.size + 1) 57 (us S0.list) → Tb w3 → Calls Tryd.prog 24 #[.int .i64 0, .slice a l.length cap, .func (.func 25) #[] #[.pointer (some ⟨w.heap.size + 1, 0, none⟩)]] w3
      fun e w' => e = .returned (.tuple #[]) ∧ Hid (Cel w' (w.heap.size + 1) 57 (us s2.list)) ∧ Hid (w3.grownBy w' (some (w.heap.size + 1)))) := by
    intro w3 h1 h2 h3
    have h := eb1_any S5 S5.list beh1 (w.heap.size + 1) (fun s m w hm hS hT => clo1_any _ s m w hm hS hT) 0 a cap l w3 S0 h1 HNE.out hl (by omega) (Nat.le_trans HT.out.big (by omega)) h2 h3
    rw [HE.out] at h
    exact h
  clear h0
  go_enter Tryd.func17, Tryd.ntmps17
  go_wp2_with (first
    | refine wpList_load_mid rfl 57 _ rfl 0 0 rfl _ _ (HRG.out _) Tryd.underlying57 rfl (by rw [us_length, listS5]; exact sizS5) ?_
    | (refine wpL_store rfl 57 _ _ rfl _ rfl (us S0.list) rfl 57 (us [0, 0, 0, 0, 0]) (Cel.newAt' _ _ _ _ _ (by simp) rfl) (by rw [us_length, us_length, listS5]; rfl) (by rw [us_length, listS5]; exact sizS5) (us_one _) ?_; intro w1 hC1 hg1; have HC1 := hide hC1; have HG1 := hide (cg_to_below (cg_new (cg_trans (cg_alloc w _ (some (w.heap.size + 1))) (cg_alloc _ _ _)) (by omega) hg1) (Nat.le_add_right _ 1) (Nat.le_refl _)); have HR1 := hide (((Cel.newAt' w 45 (bs (noughts 20)) w.heap.size _ rfl rfl).alloc _).grown hg1 (by intro e; have := Option.some.inj e; omega)); clear hC1 hg1)
    | (go_at_call 24; refine (HEB.out _ (HB.out.below HG1.out (Nat.le_refl _)) HC1.out (HT.out.below HG1.out HT.out.big)).mono ?_; rintro e w2 ⟨rfl, hS2, hg2⟩; have HR2 := hide (HR1.out.grown hg2.out (by intro e; have := Option.some.inj e; omega)); have HW2 := hide (HG1.out.trans (cg_to_below hg2.out (Nat.le_add_right _ 1) HG1.out.size)); clear hg2))
  have hlt := hS2.out.lt
  have HLT := hide hlt
  have hlt2 := HR2.out.lt
  have HLT2 := hide hlt2
  clear hlt hlt2
  have HPW : Hid (∀ Z : Array Value, Z = (bs (noughts 20)).toArray → Calls Tryd.prog 27 #[.slice (some ⟨w2.heap.size, 0, none⟩) 20 20, .slice (some ⟨w.heap.size + 1, 0, none⟩) 5 5] (w2.alloc (.cells Z 45)).drew
      fun e w' => e = .returned (.tuple #[]) ∧ Hid (Cel w' w2.heap.size 45 (bs (byts s2.list))) ∧ Hid ((w2.alloc (.cells Z 45)).drew.grownBy w' (some w2.heap.size))) := by
    intro Z hZ
    subst hZ
    have h := pw_any w2.heap.size (w.heap.size + 1) 45 57 s2.list (noughts 20) 20 20 5 (w2.alloc (.cells (bs (noughts 20)).toArray 45)).drew (Cel.new w2 _ _) (hS2.out.alloc _) (Nat.ne_of_gt HLT.out) (by rw [listS5]; decide) (by rw [listS5]) (by rw [listS5]; decide)
    rw [listS5 s2] at h
    exact h
  go_region_with (go_at_call 27; refine (HPW.out _ rfl).mono ?_; rintro e w4 ⟨rfl, hD4, hg4⟩; have HR4 := hide (((HR2.out.alloc _).drew).grown hg4.out (by intro e; exact Nat.ne_of_gt HLT2.out (Option.some.inj e))); have HW4 := hide (cg_to_below (cg_new (cg_trans (cg_trans (cg_below HW2.out (some w.heap.size)) (cg_alloc _ _ _)) (cg_drew _ _)) HW2.out.size hg4.out) (Nat.le_refl _) (Nat.le_refl _)))
  all_goals
    go_wp2_with (first
      | refine wpL_load rfl 45 _ rfl _ rfl 45 _ _ _ hD4.out Tryd.underlying45 (by rw [bs_length, HLN.out]; kernel_rfl) ?_
      | (refine wpL_store rfl 45 _ _ rfl _ rfl _ rfl 45 _ HR4.out (by rw [bs_length, bs_length, HLN.out]; rfl) (by rw [bs_length, HLN.out]; kernel_rfl) (bs_one' _) ?_; intro w9 c9 g9))
    exact bodyPost_ret (results_cel rfl _ _ _ _ _ _ _ rfl c9 Tryd.underlying45 (by rw [bs_length, HLN.out]; kernel_rfl)) rfl ⟨rfl, HW4.out.grown g9 (Nat.le_trans (Nat.le_refl _) HW4.out.size) (fun k hk => by cases hk; omega)⟩
end Go.Proofs.YtiiafkjdeoabaaaDoor
