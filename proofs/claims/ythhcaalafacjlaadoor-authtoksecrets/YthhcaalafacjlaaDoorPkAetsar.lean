/-
  THE WALKS of digest's masked and Mac; arrays that are the same.
-/
import Derived.Test.YthhcaalafacjlaaDoorPkAetsai
import Derived.Lib.SlBytesConst
section
set_option linter.unusedVariables false
namespace Go.Proofs.YthhcaalafacjlaaDoor
open Go.RowKit

theorem part_bs (w : World) (l : List UInt8) (i : Nat) (hi : i < l.length) : (part 5 (bs l).toArray i).run Tryd.prog w = .ok (.int .u8 ((l.getD i 0).toNat : Int)) w := by
  have ha : (isAgg 5).run Tryd.prog w = .ok false w := by kernel_rfl
  have hg := bs_get l i hi
  simp [part, ha, hg]
set_option maxRecDepth 100000 in
set_option maxHeartbeats 2000000 in
theorem eq_hash (w : World) (l : List UInt8) (hl : l.length = 32) : (Op.equalIn 10000 49 (.agg (bs l).toArray) (.agg (bs l).toArray)).run Tryd.prog w = .ok true w := by
  have hq := fun (a b : Int) => run_equalIn_int (P := Tryd.prog) w 9998 5 .u8 .u8 a b Tryd.underlying5
  have hp := fun (i : Nat) (hi : i < 32) => part_bs w l i (by omega)
  have hz : (sizeOf 5).run Tryd.prog w = .ok 1 w := by kernel_rfl
  rw [show (10000 : Nat) = 9998 + 1 + 1 from rfl]
  unfold Op.equalIn
  simp [run_underlying Tryd.underlying49, List.range', hp, hq, hz]

/-- The first i bytes masked. -/
def mx (k : List UInt8) (x : UInt8) (i : Nat) : List UInt8 := (k.take i).map (· ^^^ x) ++ k.drop i
theorem mx_length (k : List UInt8) (x : UInt8) (i : Nat) : (mx k x i).length = k.length := by simp [mx]; omega
theorem mx_get (k : List UInt8) (x : UInt8) (i : Nat) (h : i < k.length) : (mx k x i).getD i 0 = k.getD i 0 := by
  have hl : ((k.take i).map (· ^^^ x)).length = i := by simp; omega
  simp only [mx, List.getD_eq_getElem?_getD]
  rw [List.getElem?_append_right (by omega), hl, List.getElem?_drop]
  simp
theorem mx_set (k : List UInt8) (x : UInt8) (i : Nat) (h : i < k.length) : (mx k x i).set i (k.getD i 0 ^^^ x) = mx k x (i + 1) := by
  have hl : ((k.take i).map (· ^^^ x)).length = i := by simp; omega
  have e1 : k.drop i = k[i] :: k.drop (i + 1) := List.drop_eq_getElem_cons h
  have e2 : k.take (i + 1) = k.take i ++ [k[i]] := List.take_succ_eq_append_getElem h
  have e3 : k.getD i 0 = k[i] := by simp [h]
  unfold mx
  rw [List.set_append_right _ _ (by omega), hl, Nat.sub_self, e1, e2, e3, List.map_append, List.set_cons_zero]
  simp only [List.map_cons, List.map_nil, List.append_assoc, List.cons_append, List.nil_append]
theorem mx_all (k : List UInt8) (x : UInt8) (n : Nat) (h : k.length = n) : mx k x n = k.map (· ^^^ x) := by
  unfold mx
  rw [List.take_of_length_le (by omega), List.drop_eq_nil_of_le (by omega)]
  simp
theorem u8x (a b : UInt8) : bits .xor .u8 (a.toNat : Int) (b.toNat : Int) = ((a ^^^ b).toNat : Int) := by
  rw [u8_xor_nat _ _ a.toNat_lt b.toNat_lt, UInt8.toNat_xor]

set_option maxRecDepth 1000000 in
set_option maxHeartbeats 2000000 in
theorem masked_core (k : List UInt8) (hk : k.length = 64) (x : UInt8) (a : Option Addr) (cap : Nat) (l : List UInt8) (w : World) (hB : Bs w a cap l) (hT : Tb w) (S1 : S8) (d : List UInt8) (hd : d.length = 32) (S0 : S8) (hS0 : S0 = ini2)
    (hbeh : ∀ w, Tb w → Calls Tryd.prog 59 #[.agg (us S0.list).toArray, .agg (bs (k.map (· ^^^ x))).toArray] w fun e w' => e = .returned (.agg (us S1.list).toArray) ∧ Below w.heap.size w w')
    (hfin : ∀ w, Bs w a cap l → Tb w → Calls Tryd.prog 58 #[.agg (us S1.list).toArray, .int .i64 64, .slice a l.length cap] w fun e w' => e = .returned (.agg (bs d).toArray) ∧ Below w.heap.size w w') :
    Calls Tryd.prog 38 #[.agg (bs k).toArray, .int .u8 (x.toNat : Int), .slice a l.length cap] w fun e w' => e = .returned (.agg (bs d).toArray) ∧ Below w.heap.size w w' := by
  have HK := hide hk
  have HB := hide hB
  have HT := hide hT
  have HD := hide hd
  have HBH := hide hbeh
  have HFN := hide hfin
  have HS0 := hide hS0
  clear hk hB hT hd hbeh hfin hS0
  go_enter Tryd.func38, Tryd.ntmps38
  go_wp2
  go_loopw [9] (fun v wr => ∃ i : Nat, i ≤ 64 ∧ v = .int .i64 (i : Int) ∧ Hid (Cel wr w.heap.size 71 (bs (mx k x i))) ∧ Hid (Cel wr (w.heap.size + 1) 49 (bs (noughts 32))) ∧ Hid (Below w.heap.size w wr)) (fun v _ => 64 - (intOf v).toNat)
  case atStart => exact ⟨0, Nat.zero_le _, rfl, (Cel.newAt' w _ _ _ _ rfl (by simp [mx])).alloc _, Cel.newAt' _ _ _ _ _ (by simp) rfl, ((Below.refl _ _).alloc (Nat.le_refl _) _).alloc (by simp) _⟩
  case round =>
    obtain ⟨i, hi, rfl, hC, hR, hb⟩ := hrel
    by_cases hlt : i < 64
    · have c0 := hC.out.byte i (by rw [mx_length, HK.out]; exact hlt)
      have f0 := hC.out.fr i
      rw [mx_get k x i (by rw [HK.out]; exact hlt)] at c0
      have HX := hide (mx_set k x i (by rw [HK.out]; exact hlt))
      generalize k.getD i 0 = y at *
      have e0 := u8x y x
      obtain ⟨z, hz⟩ : ∃ z, y ^^^ x = z := ⟨_, rfl⟩
      rw [hz] at e0
      have HZ := hide hz
      clear hz
      go_wp2
      go_roundw
      case rel =>
        refine ⟨i + 1, by omega, by go_num, ?_, hR.out.other _ _ (by omega), hb.out.setCell (Nat.le_refl _) _⟩
        rw [← HX.out, HZ.out]
        exact hC.out.setB i z
      case measure => simp [intOf]; omega
    · obtain rfl : i = 64 := by omega
      rw [mx_all k x 64 HK.out] at hC
      have HML : Hid ((k.map (· ^^^ x)).length = 64) := by show _ = _; simp [HK.out]
      generalize k.map (· ^^^ x) = kx at *
      have hlt2 := hR.out.lt
      have HRG : Hid (wr.rangeAt 0 0 (us S0.list)) := by rw [HS0.out]; exact (HT.out.below hb.out HT.out.big).rng2
      rw [show ((64 : Nat) : Int) = 64 from rfl]
      go_wp2_with (first
        | refine wpList_load_mid rfl 96 _ rfl 0 0 rfl _ _ HRG.out Tryd.underlying96 rfl (by rw [us_length, listS8]; exact sizS8) ?_
        | (refine wpL_store rfl 96 _ _ rfl _ rfl (us S0.list) rfl 96 (us [0, 0, 0, 0, 0, 0, 0, 0]) (Cel.newAt' wr _ _ _ _ rfl rfl) (by rw [us_length, us_length, listS8]; rfl) (by rw [us_length, listS8]; exact sizS8) (us_one _) ?_; intro w1 hC1 hg1; have HC1 := hide hC1; have HCK := hide ((hC.out.alloc _).grown hg1 (by intro e; have := Option.some.inj e; omega)); have HR1 := hide ((hR.out.alloc _).grown hg1 (by intro e; have := Option.some.inj e; omega)); have HG1 := hide (hb.out.trans (cg_to_below (cg_trans (cg_alloc wr _ (some wr.heap.size)) hg1) hb.out.size hb.out.size)); clear hC1 hg1)
        | refine wpL_load rfl 96 _ rfl _ rfl 96 _ _ _ HC1.out Tryd.underlying96 (by rw [us_length, listS8]; exact sizS8) ?_
        | refine wpL_load rfl 71 _ rfl _ rfl 71 _ _ _ HCK.out Tryd.underlying71 (by rw [bs_length, HML.out]; kernel_rfl) ?_
        | (go_at_call 59; refine (HBH.out _ (HT.out.below HG1.out HT.out.big)).mono ?_; rintro e w2 ⟨rfl, hb2⟩; have HR2 := hide (HR1.out.below hb2 HR1.out.lt); have HG2 := hide (HG1.out.trans (hb2.mono HG1.out.size)); clear hb2)
        | (go_at_call 58; refine (HFN.out _ (HB.out.below HG2.out (Nat.le_refl _)) (HT.out.below HG2.out HT.out.big)).mono ?_; rintro e w3 ⟨rfl, hb3⟩; have HR3 := hide (HR2.out.below hb3 HR2.out.lt); have HG3 := hide (HG2.out.trans (hb3.mono HG2.out.size)); clear hb3)
        | (refine wpL_store rfl 49 _ _ rfl _ rfl (bs d) rfl 49 _ HR3.out (by rw [bs_length, bs_length, HD.out]; rfl) (by rw [bs_length, HD.out]; kernel_rfl) (bs_one' _) ?_; intro w9 c9 g9))
      exact bodyPost_ret (results_cel rfl _ _ _ _ _ _ _ rfl c9 Tryd.underlying49 (by rw [bs_length, HD.out]; kernel_rfl)) rfl ⟨rfl, HG3.out.grown g9 HG3.out.size (fun k hk => by cases hk; omega)⟩
theorem masked_any (k : List UInt8) (hk : k.length = 64) (x : UInt8) (a : Option Addr) (cap : Nat) (l : List UInt8) (w : World) (hB : Bs w a cap l) (hl : l.length ≤ 100000) (hT : Tb w) :
    Calls Tryd.prog 38 #[.agg (bs k).toArray, .int .u8 (x.toNat : Int), .slice a l.length cap] w fun e w' => e = .returned (.agg (bs (sha2 (k.map (· ^^^ x) ++ l))).toArray) ∧ Below w.heap.size w w' := by
  refine masked_core k hk x a cap l w hB hT (beh2 ini2 (k.map (· ^^^ x))) _ (sha2_length _) ini2 rfl (fun w h => beh2_any _ _ w (by simp [hk]) h) (fun w h1 h2 => ?_)
  have e : sha2 (k.map (· ^^^ x) ++ l) = byts (fin2 (beh2 ini2 (k.map (· ^^^ x))) 64 l).list := by
    rw [fin2_ahead _ _ (by simp [hk])]; rfl
  rw [e]
  exact finish_any _ 64 a cap l w h1 (by omega) (by omega) h2

/-- A key as a block. -/
def kblk (key : List UInt8) : List UInt8 := (if 64 < key.length then sha2 key else key) ++ (noughts 64).drop (if 64 < key.length then sha2 key else key).length
def mac (key l : List UInt8) : List UInt8 := sha2 ((kblk key).map (· ^^^ 92) ++ sha2 ((kblk key).map (· ^^^ 54) ++ l))
theorem kblk_length (key : List UInt8) : (kblk key).length = 64 := by
  unfold kblk
  split
  · simp [sha2_length, noughts]
  · simp [noughts]; omega
theorem mac_length (key l : List UInt8) : (mac key l).length = 32 := sha2_length _

theorem wpStill_loadrow {ops : Array Oper} {rest : List Oper} {o : Oper} {a : Act} {w : World} {Q : Act → Prop} (hgd : o.guard = none) (ty : TypeId) (x : Operand) (ho : o.op = .load ty x)
    (g : Nat) (hx : a.eval x = .pointer (some ⟨g, 0, none⟩)) (t : TypeId) (vs : List Value) (n : Nat) (e : TypeId) (hc : Cel w g t vs) (hu : Tryd.prog.underlying ty = some (.array n e)) (hi : (Tryd.prog.info? ty).map (·.size) = some vs.length)
    (h : wpStill Tryd.prog ops w Q rest (a.put o.dst (.agg vs.toArray))) : wpStill Tryd.prog ops w Q (o :: rest) a := by
  refine wpStill_step (fun K hK => ?_)
  simp only [Region.wanted, hgd, if_true]
  unfold Oper.still execOp
  simp only [ho, hx, Instr.loadAt, Instr.sureAddr, Sem.run_bind, Sem.run_pure, Result.andThen_ok, run_loadVar_row w g t ty vs.toArray (0, 0) _ hc hu rfl (by rw [hi]; simp)]
  exact ⟨rfl, hK _ h⟩

set_option maxRecDepth 1000000 in
set_option maxHeartbeats 4000000 in
theorem mac_core (ak : Option Addr) (ck : Nat) (key : List UInt8) (a : Option Addr) (cap : Nat) (l : List UInt8) (w : World) (hK : Bs w ak ck key) (hB : Bs w a cap l) (hT : Tb w) (kk kb d1 d2 : List UInt8) (hkk : kk.length ≤ 64) (hkb : kb = kk ++ (noughts 64).drop kk.length) (hd1 : d1.length = 32) (hd2 : d2.length = 32)
    (hcase : (key.length ≤ 64 ∧ kk = key) ∨ (64 < key.length ∧ kk.length = 32 ∧ ∀ w, Bs w ak ck key → Tb w → Calls Tryd.prog 37 #[.slice ak key.length ck] w fun e w' => e = .returned (.agg (bs kk).toArray) ∧ Below w.heap.size w w'))
    (hm1 : ∀ w, Bs w a cap l → Tb w → Calls Tryd.prog 38 #[.agg (bs kb).toArray, .int .u8 54, .slice a l.length cap] w fun e w' => e = .returned (.agg (bs d1).toArray) ∧ Below w.heap.size w w')
    (hm2 : ∀ w D, Bs w (some ⟨D, 0, none⟩) 32 d1 → Tb w → Calls Tryd.prog 38 #[.agg (bs kb).toArray, .int .u8 92, .slice (some ⟨D, 0, none⟩) 32 32] w fun e w' => e = .returned (.agg (bs d2).toArray) ∧ Below w.heap.size w w') :
    Calls Tryd.prog 22 #[.slice ak key.length ck, .slice a l.length cap] w fun e w' => e = .returned (.agg (bs d2).toArray) ∧ Below w.heap.size w w' := by
  have HKB := hide hkb
  have hkl : kb.length = 64 := by rw [hkb]; simp [noughts]; omega
  have HKL := hide hkl
  have HK := hide hK
  have HB := hide hB
  have HT := hide hT
  have HD1 := hide hd1
  have HD2 := hide hd2
  have HM1 := hide hm1
  have HM2 := hide hm2
  have HKK := hide hkk
  clear hkb hkl hK hB hT hd1 hd2 hm1 hm2 hkk
  rcases hcase with ⟨hle, hke⟩ | ⟨hgt, hk32, hsha⟩
  · subst hke
    go_enter Tryd.func22, Tryd.ntmps22
    go_wp2_with (first
      | (refine wpL_copy rfl _ _ rfl (w.heap.size + 1) 64 _ rfl ak ck _ kk rfl rfl 71 (noughts 64) (Cel.newAt' _ _ (bs (noughts 64)) _ _ (by simp) rfl) rfl HKK.out ((HK.out.alloc _).alloc _).row ?_; intro w1 hC1 hg1; rw [← HKB.out] at hC1; have HC1 := hide hC1; have HR1 := hide (((Cel.newAt' w 49 (bs (noughts 32)) w.heap.size _ rfl rfl).alloc _).grown hg1 (by intro e; have := Option.some.inj e; omega)); have HG1 := hide (cg_to_below (cg_trans (cg_trans (cg_alloc w _ (some (w.heap.size + 1))) (cg_alloc _ _ _)) hg1) (Nat.le_succ _) (Nat.le_refl _)); clear hC1 hg1)
      | refine wpL_load rfl 71 _ rfl _ rfl 71 _ _ _ HC1.out Tryd.underlying71 (by rw [bs_length, HKL.out]; kernel_rfl) ?_
      | (go_at_call 38; refine (HM1.out _ (HB.out.below HG1.out (Nat.le_refl _)) (HT.out.below HG1.out HT.out.big)).mono ?_; rintro e w2 ⟨rfl, hb2⟩; have HC2 := hide (HC1.out.below hb2 HC1.out.lt); have HR2 := hide (HR1.out.below hb2 HR1.out.lt); have HG2 := hide (HG1.out.trans (hb2.mono HG1.out.size)); clear hb2)
      | (refine wpL_store rfl 49 _ _ rfl _ rfl (bs d1) rfl 49 (bs (noughts 32)) (Cel.newAt' w2 _ _ _ _ rfl rfl) (by rw [bs_length, bs_length, HD1.out]; rfl) (by rw [bs_length, HD1.out]; kernel_rfl) (bs_one' _) ?_; intro w3 hC3 hg3; have HC3 := hide hC3; have hl2 := HC2.out.lt; have hr2 := HR2.out.lt; have HK3 := hide ((HC2.out.alloc _).grown hg3 (by intro e; have := Option.some.inj e; omega)); have HR3 := hide ((HR2.out.alloc _).grown hg3 (by intro e; have := Option.some.inj e; omega)); have HG3 := hide (HG2.out.trans (cg_to_below (cg_trans (cg_alloc w2 _ (some w2.heap.size)) hg3) HG2.out.size HG2.out.size)); clear hC3 hg3))
    refine rs_tail 2 follows (by kernel_rfl) ?_
    simp only [List.take_succ_cons, List.take_zero, List.drop_succ_cons, List.drop_zero]
    refine wpStill_loadrow rfl 71 _ rfl _ rfl 71 _ _ _ HK3.out.drew Tryd.underlying71 (by rw [bs_length, HKL.out]; kernel_rfl) ?_
    still_step
    refine wpStill_nil ?_
    go_wp2_with (first
      | (go_at_call 38; refine (HM2.out _ w2.heap.size ⟨HC3.out.drew.row, by rw [HD1.out]; exact Nat.le_refl _, by unfold maxLen; decide, fun h => by cases h⟩ (HT.out.below HG3.out.drew HT.out.big)).mono ?_; rintro e w4 ⟨rfl, hb4⟩; have HR4 := hide (HR3.out.drew.below hb4 HR3.out.lt); have HG4 := hide (HG3.out.drew.trans (hb4.mono HG3.out.size)); clear hb4)
      | (refine wpL_store rfl 49 _ _ rfl _ rfl (bs d2) rfl 49 _ HR4.out (by rw [bs_length, bs_length, HD2.out]; rfl) (by rw [bs_length, HD2.out]; kernel_rfl) (bs_one' _) ?_; intro w9 c9 g9))
    exact bodyPost_ret (results_cel rfl _ _ _ _ _ _ _ rfl c9 Tryd.underlying49 (by rw [bs_length, HD2.out]; kernel_rfl)) rfl ⟨rfl, HG4.out.grown g9 HG4.out.size (fun k hk => by cases hk; omega)⟩
  · have HSH := hide hsha
    have HK32 := hide hk32
    clear hsha hk32
    go_enter Tryd.func22, Tryd.ntmps22
    go_wp2_with (first
      | (go_at_call 37; refine (HSH.out _ ((HK.out.alloc _).alloc _) ((HT.out.alloc _).alloc _)).mono ?_; rintro e w0 ⟨rfl, hb0⟩; have HZ0 := hide ((Cel.newAt' _ 71 (bs (noughts 64)) (w.heap.size + 1) _ (by simp) rfl).below hb0 (by simp)); have HR0 := hide (((Cel.newAt' w 49 (bs (noughts 32)) w.heap.size _ rfl rfl).alloc _).below hb0 (by simp; omega)); have HG0 := hide ((((Below.refl w.heap.size w).alloc (Nat.le_refl _) _).alloc (by simp) _).trans (hb0.mono (by simp; omega))); clear hb0)
      | (refine wpL_store rfl 49 _ _ rfl _ rfl (bs kk) rfl 49 (bs (noughts 32)) (Cel.newAt' w0 _ _ _ _ rfl rfl) (by rw [bs_length, bs_length, HK32.out]; rfl) (by rw [bs_length, HK32.out]; kernel_rfl) (bs_one' _) ?_; intro wa hCa hga; have HCA := hide hCa; have hz0 := HZ0.out.lt; have hr0 := HR0.out.lt; have HZA := hide ((HZ0.out.alloc _).grown hga (by intro e; have := Option.some.inj e; omega)); have HRA := hide ((HR0.out.alloc _).grown hga (by intro e; have := Option.some.inj e; omega)); have HGA := hide (HG0.out.trans (cg_to_below (cg_trans (cg_alloc w0 _ (some w0.heap.size)) hga) HG0.out.size HG0.out.size)); clear hCa hga)
      | (refine wpL_copy rfl _ _ rfl (w.heap.size + 1) 64 _ rfl (some ⟨w0.heap.size, 0, none⟩) 32 32 kk rfl HK32.out.symm 71 (noughts 64) HZA.out rfl HKK.out HCA.out.row ?_; intro w1 hC1 hg1; rw [← HKB.out] at hC1; have HC1 := hide hC1; have HR1 := hide (HRA.out.grown hg1 (by intro e; have := Option.some.inj e; omega)); have HG1 := hide (HGA.out.trans (cg_to_below hg1 (Nat.le_succ _) HGA.out.size)); clear hC1 hg1)
      | refine wpL_load rfl 71 _ rfl _ rfl 71 _ _ _ HC1.out Tryd.underlying71 (by rw [bs_length, HKL.out]; kernel_rfl) ?_
      | (go_at_call 38; refine (HM1.out _ (HB.out.below HG1.out (Nat.le_refl _)) (HT.out.below HG1.out HT.out.big)).mono ?_; rintro e w2 ⟨rfl, hb2⟩; have HC2 := hide (HC1.out.below hb2 HC1.out.lt); have HR2 := hide (HR1.out.below hb2 HR1.out.lt); have HG2 := hide (HG1.out.trans (hb2.mono HG1.out.size)); clear hb2)
      | (refine wpL_store rfl 49 _ _ rfl _ rfl (bs d1) rfl 49 (bs (noughts 32)) (Cel.newAt' w2 _ _ _ _ rfl rfl) (by rw [bs_length, bs_length, HD1.out]; rfl) (by rw [bs_length, HD1.out]; kernel_rfl) (bs_one' _) ?_; intro w3 hC3 hg3; have HC3 := hide hC3; have hl2 := HC2.out.lt; have hr2 := HR2.out.lt; have HK3 := hide ((HC2.out.alloc _).grown hg3 (by intro e; have := Option.some.inj e; omega)); have HR3 := hide ((HR2.out.alloc _).grown hg3 (by intro e; have := Option.some.inj e; omega)); have HG3 := hide (HG2.out.trans (cg_to_below (cg_trans (cg_alloc w2 _ (some w2.heap.size)) hg3) HG2.out.size HG2.out.size)); clear hC3 hg3))
    refine rs_tail 2 follows (by kernel_rfl) ?_
    simp only [List.take_succ_cons, List.take_zero, List.drop_succ_cons, List.drop_zero]
    refine wpStill_loadrow rfl 71 _ rfl _ rfl 71 _ _ _ HK3.out.drew Tryd.underlying71 (by rw [bs_length, HKL.out]; kernel_rfl) ?_
    still_step
    refine wpStill_nil ?_
    go_wp2_with (first
      | (go_at_call 38; refine (HM2.out _ w2.heap.size ⟨HC3.out.drew.row, by rw [HD1.out]; exact Nat.le_refl _, by unfold maxLen; decide, fun h => by cases h⟩ (HT.out.below HG3.out.drew HT.out.big)).mono ?_; rintro e w4 ⟨rfl, hb4⟩; have HR4 := hide (HR3.out.drew.below hb4 HR3.out.lt); have HG4 := hide (HG3.out.drew.trans (hb4.mono HG3.out.size)); clear hb4)
      | (refine wpL_store rfl 49 _ _ rfl _ rfl (bs d2) rfl 49 _ HR4.out (by rw [bs_length, bs_length, HD2.out]; rfl) (by rw [bs_length, HD2.out]; kernel_rfl) (bs_one' _) ?_; intro w9 c9 g9))
    exact bodyPost_ret (results_cel rfl _ _ _ _ _ _ _ rfl c9 Tryd.underlying49 (by rw [bs_length, HD2.out]; kernel_rfl)) rfl ⟨rfl, HG4.out.grown g9 HG4.out.size (fun k hk => by cases hk; omega)⟩
theorem mac_any (ak : Option Addr) (ck : Nat) (key : List UInt8) (a : Option Addr) (cap : Nat) (l : List UInt8) (w : World) (hK : Bs w ak ck key) (hB : Bs w a cap l) (hT : Tb w) (hkl : key.length ≤ 100000) (hl : l.length ≤ 100000) :
    Calls Tryd.prog 22 #[.slice ak key.length ck, .slice a l.length cap] w fun e w' => e = .returned (.agg (bs (mac key l)).toArray) ∧ Below w.heap.size w w' := by
  have h1 : ∀ w, Bs w a cap l → Tb w → Calls Tryd.prog 38 #[.agg (bs (kblk key)).toArray, .int .u8 54, .slice a l.length cap] w fun e w' => e = .returned (.agg (bs (sha2 ((kblk key).map (· ^^^ 54) ++ l))).toArray) ∧ Below w.heap.size w w' :=
    fun w h t => masked_any (kblk key) (kblk_length key) 54 a cap l w h hl t
  have h2 : ∀ w D, Bs w (some ⟨D, 0, none⟩) 32 (sha2 ((kblk key).map (· ^^^ 54) ++ l)) → Tb w → Calls Tryd.prog 38 #[.agg (bs (kblk key)).toArray, .int .u8 92, .slice (some ⟨D, 0, none⟩) 32 32] w fun e w' => e = .returned (.agg (bs (mac key l)).toArray) ∧ Below w.heap.size w w' := by
    intro w D h t
    have := masked_any (kblk key) (kblk_length key) 92 (some ⟨D, 0, none⟩) 32 _ w h (by rw [sha2_length]; decide) t
    rw [sha2_length] at this
    exact this
  by_cases hc : 64 < key.length
  · refine mac_core ak ck key a cap l w hK hB hT (sha2 key) (kblk key) _ _ (by rw [sha2_length]; decide) (by unfold kblk; rw [if_pos hc]) (sha2_length _) (mac_length _ _) (.inr ⟨hc, sha2_length _, fun w h t => sha2_any ak ck key w h (by omega) t⟩) h1 h2
  · refine mac_core ak ck key a cap l w hK hB hT key (kblk key) _ _ (by omega) (by unfold kblk; rw [if_neg hc]) (sha2_length _) (mac_length _ _) (.inl ⟨by omega, rfl⟩) h1 h2
#print axioms mac_any
#print axioms masked_any
end Go.Proofs.YthhcaalafacjlaaDoor
end
