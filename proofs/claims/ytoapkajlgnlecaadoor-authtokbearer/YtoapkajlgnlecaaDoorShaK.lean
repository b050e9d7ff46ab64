/-
  THE WALKS of digest's Sha1, (long).finish and Sha256.
-/
import Derived.Test.YtoapkajlgnlecaaDoorShaJ
set_option linter.unusedVariables false
namespace Go.Proofs.YtoapkajlgnlecaaDoor
open Go.RowKit

theorem Tb.rng2 {w : World} (h : Tb w) : w.rangeAt 0 0 (us ini2.list) := by
  intro j v hv
  have hj : j < ini2.list.length := by
    have := (List.getElem?_eq_some_iff.1 hv).1
    simpa [us_length] using this
  rw [us_get _ j hj] at hv
  obtain rfl := Option.some.inj hv
  rw [Nat.zero_add]
  exact h.i2 j hj
theorem Cel.newAt' (w : World) (t : TypeId) (vs : List Value) (n : Nat) (c : Array Value) (h : w.heap.size = n) (hc : c = vs.toArray) : Cel (w.alloc (.cells c t)) n t vs := by subst h; subst hc; exact heap_alloc_new w _
theorem Tb.alloc {w : World} (h : Tb w) (o : Obj) : Tb (w.alloc o) := h.below ((Below.refl w.heap.size w).alloc (Nat.le_refl _) o) h.big

set_option maxRecDepth 1000000 in
set_option maxHeartbeats 2000000 in
theorem finish_any (s : S8) (A : Nat) (a : Option Addr) (cap : Nat) (l : List UInt8) (w : World) (hB : Bs w a cap l) (hl : l.length ≤ 1000000) (hA : A ≤ 64) (hT : Tb w) :
    Calls Tryd.prog 47 #[.agg (us s.list).toArray, .int .i64 (A : Int), .slice a l.length cap] w
      fun e w' => e = .returned (.agg (bs (byts (fin2 s A l).list)).toArray) ∧ Below w.heap.size w w' := by
  obtain ⟨s2, hs2⟩ : ∃ s2, (blks ((A + l.length) * 8) l).foldl beh2 s = s2 := ⟨_, rfl⟩
  have e2 : fin2 s A l = s2 := hs2
  rw [e2]
  have HE := hide hs2
  clear e2 hs2
  have hlen : (byts s2.list).length = 32 := by rw [byts_length, listS8]
  have HLN := hide hlen
  have HB := hide hB
  have HT := hide hT
  have HNE : Hid (l ≠ [] → blk a ≠ some w.heap.size) := fun h e => Nat.lt_irrefl _ (hB.row.lt h _ e)
  have hmf : ∀ (fn : Fn) (first cap : Array Value) (w : World), (Instr.makeFunc fn first cap).run Tryd.prog w = .ok (.func fn first cap) w := fun _ _ _ _ => rfl
  clear hlen hB hT
  go_enter Tryd.func47, Tryd.ntmps47
  go_wp2_with (first
    | (go_at_call 61; refine (eb2_any S8 S8.list beh2 w.heap.size (fun s m w hm hS hT => clo2_any _ s m w hm hS hT) A a cap l _ s ((HB.out.alloc _).alloc _) HNE.out hl hA HT.out.big ((Cel.new w _ (us s.list)).alloc _) ((HT.out.alloc _).alloc _)).mono ?_; rintro e w2 ⟨rfl, hS2, hg2⟩; rw [HE.out] at hS2; have HR2 := hide ((Cel.newAt' _ 52 (bs (noughts 32)) (w.heap.size + 1) _ (by simp) rfl).grown hg2.out (by intro e; have := Option.some.inj e; omega)); have HT2 := hide (((HT.out.alloc _).alloc _).grown hg2.out HT.out.big); have HW2 := hide (cg_to_below (cg_trans (cg_trans (cg_alloc w _ _) (cg_alloc _ _ _)) hg2.out) (Nat.le_refl _) (Nat.le_refl _)); clear hg2))
  have hlt := hS2.out.lt
  have HLT := hide hlt
  have hlt2 := HR2.out.lt
  have HLT2 := hide hlt2
  clear hlt hlt2
  have HPW : Hid (∀ Z : Array Value, Z = (bs (noughts 32)).toArray → Calls Tryd.prog 63 #[.slice (some ⟨w2.heap.size, 0, none⟩) 32 32, .slice (some ⟨w.heap.size, 0, none⟩) 8 8] (w2.alloc (.cells Z 52)).drew
      fun e w' => e = .returned (.tuple #[]) ∧ Hid (Cel w' w2.heap.size 52 (bs (byts s2.list))) ∧ Hid ((w2.alloc (.cells Z 52)).drew.grownBy w' (some w2.heap.size))) := by
    intro Z hZ
    subst hZ
    have h := pw_any w2.heap.size w.heap.size 52 95 s2.list (noughts 32) 32 32 8 (w2.alloc (.cells (bs (noughts 32)).toArray 52)).drew (Cel.new w2 _ _) (hS2.out.alloc _) (Nat.ne_of_gt HLT.out) (by rw [listS8]; decide) (by rw [listS8]) (by rw [listS8]; decide)
    rw [listS8 s2] at h
    exact h
  go_region_with (go_at_call 63; refine (HPW.out _ rfl).mono ?_; rintro e w4 ⟨rfl, hD4, hg4⟩; have HR4 := hide (((HR2.out.alloc _).drew).grown hg4.out (by intro e; exact Nat.ne_of_gt HLT2.out (Option.some.inj e))); have HW4 := hide (cg_to_below (cg_new (cg_trans (cg_trans (cg_below HW2.out _) (cg_alloc _ _ _)) (cg_drew _ _)) HW2.out.size hg4.out) (Nat.le_refl _) (Nat.le_refl _)))
  all_goals
    go_wp2_with (first
      | refine wpL_load rfl 52 _ rfl _ rfl 52 _ _ _ hD4.out Tryd.underlying52 (by rw [bs_length, HLN.out]; kernel_rfl) ?_
      | (refine wpL_store rfl 52 _ _ rfl _ rfl _ rfl 52 _ HR4.out (by rw [bs_length, bs_length, HLN.out]; rfl) (by rw [bs_length, HLN.out]; kernel_rfl) (bs_one' _) ?_; intro w9 c9 g9))
    exact bodyPost_ret (results_cel rfl _ _ _ _ _ _ _ rfl c9 Tryd.underlying52 (by rw [bs_length, HLN.out]; kernel_rfl)) rfl ⟨rfl, HW4.out.grown g9 (Nat.le_trans (Nat.le_refl _) HW4.out.size) (fun k hk => by cases hk; omega)⟩

set_option maxRecDepth 1000000 in
set_option maxHeartbeats 2000000 in
theorem sha2_any (a : Option Addr) (cap : Nat) (l : List UInt8) (w : World) (hB : Bs w a cap l) (hl : l.length ≤ 1000000) (hT : Tb w) :
    Calls Tryd.prog 28 #[.slice a l.length cap] w fun e w' => e = .returned (.agg (bs (sha2 l)).toArray) ∧ Below w.heap.size w w' := by
  obtain ⟨d, hd⟩ : ∃ d, sha2 l = d := ⟨_, rfl⟩
  have hlen : d.length = 32 := by rw [← hd]; exact sha2_length l
  have HLN := hide hlen
  have HB := hide hB
  have HT := hide hT
  obtain ⟨S0, hS0⟩ : ∃ s : S8, s = ini2 := ⟨_, rfl⟩
  have HRG : Hid (∀ o, (w.alloc o).rangeAt 0 0 (us S0.list)) := fun o => by rw [hS0]; exact (hT.alloc o).rng2
  have HF : Hid (∀ (w3 : World), Bs w3 a cap l → Tb w3 → Calls Tryd.prog 47 #[.agg (us S0.list).toArray, .int .i64 0, .slice a l.length cap] w3
      fun e w' => e = .returned (.agg (bs d).toArray) ∧ Below w3.heap.size w3 w') := by
    intro w3 h1 h2
    rw [← hd, hS0]
    exact finish_any ini2 0 a cap l w3 h1 hl (by omega) h2
  rw [hd]
  clear hlen hB hT hS0 hd
  go_enter Tryd.func28, Tryd.ntmps28
  go_wp2_with (first
    | refine wpList_load_mid rfl 95 _ rfl 0 0 rfl _ _ (HRG.out _) Tryd.underlying95 rfl (by rw [us_length, listS8]; exact sizS8) ?_
    | (refine wpL_store rfl 95 _ _ rfl _ rfl (us S0.list) rfl 95 (us [0, 0, 0, 0, 0, 0, 0, 0]) (Cel.newAt' _ _ _ _ _ (by simp) rfl) (by rw [us_length, us_length, listS8]; rfl) (by rw [us_length, listS8]; exact sizS8) (us_one _) ?_; intro w1 hC1 hg1; have HC1 := hide hC1; have HG1 := hide (cg_to_below (cg_new (cg_trans (cg_alloc w _ (some (w.heap.size + 1))) (cg_alloc _ _ _)) (by omega) hg1) (Nat.le_add_right _ 1) (Nat.le_refl _)); have HR1 := hide (((Cel.newAt' w 52 (bs (noughts 32)) w.heap.size _ rfl rfl).alloc _).grown hg1 (by intro e; have := Option.some.inj e; omega)); clear hC1 hg1)
    | refine wpL_load rfl 95 _ rfl _ rfl 95 _ _ _ HC1.out Tryd.underlying95 (by rw [us_length, listS8]; exact sizS8) ?_
    | (go_at_call 47; refine (HF.out _ (HB.out.below HG1.out (Nat.le_refl _)) (HT.out.below HG1.out HT.out.big)).mono ?_; rintro e w2 ⟨rfl, hb2⟩; have HR2 := hide (HR1.out.below hb2 HR1.out.lt); have HW4 := hide (HG1.out.trans (hb2.mono HG1.out.size)); clear hb2)
    | (refine wpL_store rfl 52 _ _ rfl _ rfl (bs d) rfl 52 _ HR2.out (by rw [bs_length, bs_length, HLN.out]; rfl) (by rw [bs_length, HLN.out]; kernel_rfl) (bs_one' _) ?_; intro w9 c9 g9))
  exact bodyPost_ret (results_cel rfl _ _ _ _ _ _ _ rfl c9 Tryd.underlying52 (by rw [bs_length, HLN.out]; kernel_rfl)) rfl ⟨rfl, HW4.out.grown g9 HW4.out.size (fun k hk => by cases hk; omega)⟩
#print axioms sha2_any
end Go.Proofs.YtoapkajlgnlecaaDoor
