/-
  authtok: THE WALK of the document's own Read.; THE WALK of AuthtokReads.
-/
import Derived.Test.YthhcaalafacjlaaDoorPkAadsbb
section
set_option linter.unusedVariables false
set_option maxRecDepth 1000000
namespace Go.Proofs.YthhcaalafacjlaaDoor
open Go.RowKit

set_option maxHeartbeats 16000000 in
theorem rread10_any (p : Option Addr) (cp : Nat) (L : List Sec) (now : Int) (s : List UInt8) (w : World) (h : SecR w p L) (hl : L.length ≤ 140737488355328) (hsl : s.length ≤ 100000) :
    Calls Tryd.prog 16 #[.slice p L.length cp, .int .i64 now, .string (str s)] w fun e w' => ∃ (E : Int) (c g : List UInt8) (u : Int), e = .returned (.tuple #[.agg #[.string (str c), .string (str g), .int .i64 u], .int .i64 E]) ∧ Hid ((E, (⟨c, g, u⟩ : Cl)) = rdT L now s) ∧ Hid (Below w.heap.size w w') := by
  have HS := hide h
  have hss : (str s).size = s.length := str_size s
  clear h
  go_enter Tryd.func16, Tryd.ntmps16
  go_wp2_with fail
  have HR1 : Hid (Clz (w.alloc (.cells #[.string ⟨#[]⟩, .string ⟨#[]⟩, .int .i64 0] 24)) w.heap.size) := heap_alloc_new w _
  have HB1 : Hid (Below w.heap.size w (w.alloc (.cells #[.string ⟨#[]⟩, .string ⟨#[]⟩, .int .i64 0] 24))) := (Below.refl _ _).alloc (Nat.le_refl _) _
  generalize w.alloc (.cells #[.string ⟨#[]⟩, .string ⟨#[]⟩, .int .i64 0] 24) = w1 at *
  refine (rcheck_any p cp L w1 (HS.out.below HB1.out (Nat.le_refl _)) hl).mono ?_
  rintro e w2 ⟨rfl, hb2⟩
  have HR2 := hide (HR1.out.below hb2.out (Nat.le_refl _))
  have HB2 : Hid (Below w.heap.size w w2) := HB1.out.trans (hb2.out.mono HB1.out.size)
  clear hb2 HR1 HB1
  cases hck : ckOk L with
  | false =>
    have HM : Hid (((102 : Int), Cl.zero) = rdT L now s) := by show _ = _; unfold rdT; rw [if_pos hck]
    obtain ⟨⟨b0, b1, b2⟩, f0, f1, f2⟩ := HR2.out.facts
    have HB3 := fun x y z => hide (below_set3 HB2.out (Nat.le_refl _) (Nat.le_refl _) x y z)
    go_wp2
    refine bodyPost_ret (v := .tuple #[.agg #[.string ⟨#[]⟩, .string ⟨#[]⟩, .int .i64 0], .int .i64 102]) (by simp [results, Tryd.results16, go_sem, b0, b1, b2]) rfl ⟨102, [], [], 0, rfl, HM, HB3 _ _ _⟩
  | true =>
  have HCK := hide hck
  clear hck
  have HNO : Hid (sgn L (say s).1 (say s).2 s = false → ((100 : Int), Cl.zero) = rdT L now s) := fun h => by
    unfold rdT
    rw [if_neg (by rw [HCK.out]; simp), if_pos h]
  have HIX : Hid (∀ i : Nat, i < s.length → ∀ w : World, (Instr.index 9 (.string (str s)) (.int .i64 (i : Int))).run Tryd.prog w = .ok (.int .u8 ((s.getD i 0).toNat : Int)) w) := fun i hi w => run_ixs w s i _ (by rw [List.getD_eq_getElem?_getD, List.getElem?_eq_getElem hi]; rfl)
  obtain ⟨K, hK⟩ : ∃ K, (cutP s).length = K := ⟨_, rfl⟩
  have HKB : Hid (∀ i, i < K → s.getD i 0 ≠ 46) := fun i hi => cut_before s i (by rw [hK]; exact hi)
  have HKA : Hid (K < s.length → s.getD K 0 = 46) := fun h => by rw [← hK] at h ⊢; exact cut_at s h
  have hKl : K ≤ s.length := by rw [← hK]; exact cut_le s
  have HEX : Hid ((str s).extract 0 K = str (cutP s)) := by show _ = _; rw [str_take, ← hK, cut_take]
  have HCL : Hid ((cutP s).length ≤ 100000) := Nat.le_trans (cut_le s) hsl
  clear hK
  have e0 : str [] = (⟨#[]⟩ : ByteArray) := rfl
  go_wp2
  go_loopw [8] (fun v wr => ∃ i : Nat, i ≤ K ∧ v = .int .i64 (i : Int) ∧ wr = w2) (fun v _ => K - (intOf v).toNat)
  case atStart => exact ⟨0, Nat.zero_le _, rfl, rfl⟩
  case round =>
    obtain ⟨i, hi, rfl, rfl⟩ := hrel
    by_cases hlt : i < K
    · have hx := HIX.out i (by omega)
      have hne := HKB.out i hlt
      have hi2 : (i : Int) < (s.length : Int) := by omega
      generalize s.getD i 0 = c at *
      have hc46 : ((c.toNat : Int) != 46) = true := by
        simp only [bne_iff_ne, ne_eq]
        intro e
        have h46 : c.toNat = 46 := by omega
        exact hne (UInt8.toNat_inj.1 h46)
      have hc46' : ((c.toNat : Int) == 46) = false := by simpa using hc46
      clear hne
      go_wp2
      go_roundw
      case rel => exact ⟨i + 1, by omega, by go_num, trivial⟩
      case measure => simp [intOf]; omega
    · obtain rfl : i = K := by omega
      have ex := HEX.out
      have hKs : (i : Int) ≤ (s.length : Int) := by omega
      by_cases hKL : i < s.length
      · have hx := HIX.out i hKL
        rw [HKA.out hKL] at hx
        have hi2 : (i : Int) < (s.length : Int) := by omega
        go_wp2_with fail
        refine (runspell_any (str (cutP s)) wr HCL.out).mono ?_
        rintro e w3 ⟨hb3, hu3⟩
        have HR3 := hide (HR2.out.below hb3 (Nat.le_refl _))
        have HB3 : Hid (Below w.heap.size w w3) := HB2.out.trans (hb3.mono HB2.out.size)
        clear hb3 HR2 HB2
        rcases hu3 with ⟨hu, rfl⟩ | ⟨a3, c3, P, hu, rfl, ho3⟩
        · have HM : Hid (((100 : Int), Cl.zero) = rdT L now s) := HNO.out (by
            cases hs : sgn L (say s).1 (say s).2 s with
            | false => rfl
            | true =>
              obtain ⟨id, x, h1, _⟩ := sg_reads HCK.out hs
              rw [show unR (cutP s) 0 0 = none from hu] at h1
              cases h1)
          obtain ⟨⟨b0, b1, b2⟩, f0, f1, f2⟩ := HR3.out.facts
          have HB4 := fun x y z => hide (below_set3 HB3.out (Nat.le_refl _) (Nat.le_refl _) x y z)
          clear hu
          go_wp2
          refine bodyPost_ret (v := .tuple #[.agg #[.string ⟨#[]⟩, .string ⟨#[]⟩, .int .i64 0], .int .i64 100]) (by simp [results, Tryd.results16, go_sem, b0, b1, b2]) rfl ⟨100, [], [], 0, rfl, HM, HB4 _ _ _⟩
        have HU : Hid (unR (cutP s) 0 0 = some P) := hu
        have hPl : P.length ≤ 100000 := by have := un_length _ _ HU.out; have := HCL.out; omega
        have HC4 : Hid (RC (w3.alloc (.cells #[.slice a3 P.length c3, .int .i64 0] 64)) w3.heap.size a3 c3 P 0) := ⟨heap_alloc_new w3 _, ho3.toBs.alloc _, Nat.zero_le _, fun _ e => by have := (ho3.lt _ e).2; omega, by omega⟩
        have HR4 : Hid (Clz (w3.alloc (.cells #[.slice a3 P.length c3, .int .i64 0] 64)) w.heap.size) := HR3.out.below ((Below.refl w3.heap.size w3).alloc (Nat.le_refl _) _) (Nat.le_refl _)
        have HB4 : Hid (Below w.heap.size w (w3.alloc (.cells #[.slice a3 P.length c3, .int .i64 0] 64))) := HB3.out.alloc HB3.out.size _
        have HNE : Hid (w.heap.size ≠ w3.heap.size) := by have := HR3.out.lt; show _ ≠ _; omega
        have HWC : Hid (w.heap.size ≤ w3.heap.size) := HB3.out.size
        clear ho3 HR3 HB3 hu
        go_wp2_with fail
        generalize w3.alloc (.cells #[.slice a3 P.length c3, .int .i64 0] 64) = w4 at *
        generalize w3.heap.size = X at *
        refine (rnumber_any' X a3 c3 P 0 w4 HC4.out).mono ?_
        rintro e w5 ⟨N1, S1, E1, rfl, E1', hC5, hg5⟩
        have HR5 := hide (HR4.out.grown hg5 HNE.out)
        have HB5 := hide (below_curs HB4.out hg5 HB4.out.size HWC.out)
        have HC5 := hide hC5
        clear HR4 HB4 HC4 hC5 hg5
        go_wp2_with fail
        refine (rtext_any' X a3 c3 P (0 + S1) 24 w5 HC5.out (by omega) (by omega)).mono ?_
        rintro e w6 ⟨t2, E2, S2, rfl, E2', hC6, hg6⟩
        have HR6 := hide (HR5.out.grown hg6 HNE.out)
        have HB6 := hide (below_curs HB5.out hg6 HB5.out.size HWC.out)
        have HC6 := hide hC6
        clear HR5 HB5 HC5 hC6 hg6
        go_wp2_with fail
        refine (rtext_any' X a3 c3 P (0 + S1 + S2) 24 w6 HC6.out (by omega) (by omega)).mono ?_
        rintro e w7 ⟨t3, E3, S3, rfl, E3', hC7, hg7⟩
        have HR7 := hide (HR6.out.grown hg7 HNE.out)
        have HB7 := hide (below_curs HB6.out hg7 HB6.out.size HWC.out)
        have HC7 := hide hC7
        clear HR6 HB6 HC6 hC7 hg7
        go_wp2_with fail
        refine (rnumber_any' X a3 c3 P (0 + S1 + S2 + S3) w7 HC7.out).mono ?_
        rintro e w8 ⟨N4, S4, E4, rfl, E4', hC8, hg8⟩
        have HR8 := hide (HR7.out.grown hg8 HNE.out)
        have HB8 := hide (below_curs HB7.out hg8 HB7.out.size HWC.out)
        clear HR7 HB7 HC7 hC8 hg8
        have HSAY : Hid (say s = ((N1 : Int), ⟨t2, t3, (N4 : Int)⟩)) := by
          show _ = _
          unfold say
          rw [HU.out]
          exact say_parts P N1 S1 E1 E2 S2 E3 S3 N4 S4 E4 t2 t3 E1'.out E2'.out E3'.out E4'.out
        have hl2 : t2.length ≤ 24 := by have := tx_len (P.drop (0 + S1)); rw [← E2'.out] at this; exact this
        have hl3 : t3.length ≤ 24 := by have := tx_len (P.drop (0 + S1 + S2)); rw [← E3'.out] at this; exact this
        have hn1 : N1 ≤ 9223372036854775807 := by have := (rd_le (P.drop 0)).2.1; rw [← E1'.out] at this; exact this
        have hn4 : N4 ≤ 9223372036854775807 := by have := (rd_le (P.drop (0 + S1 + S2 + S3))).2.1; rw [← E4'.out] at this; exact this
        have HER : Hid (¬ (E1 = 0 ∧ E2 = 0 ∧ E3 = 0 ∧ E4 = 0) → ((100 : Int), Cl.zero) = rdT L now s) := fun hne => HNO.out (by
          cases hs : sgn L (say s).1 (say s).2 s with
          | false => rfl
          | true =>
            obtain ⟨id, x, h1, h2, h3, h4, _⟩ := sg_reads HCK.out hs
            have hP : P = pay id x := Option.some.inj (HU.out.symm.trans h1)
            have q1 := E1'.out
            have q2 := E2'.out
            have q3 := E3'.out
            have q4 := E4'.out
            rw [hP] at q1 q2 q3 q4
            exact absurd (pay_reads id x h2 h3 h4 N1 S1 E1 E2 S2 E3 S3 N4 S4 E4 t2 t3 q1 q2 q3 q4) hne)
        have HRD : Hid (sgn L (N1 : Int) ⟨t2, t3, (N4 : Int)⟩ s = true → rdT L now s = if (N4 : Int) ≤ now then (101, Cl.zero) else (0, ⟨t2, t3, (N4 : Int)⟩)) := fun hs => by
          unfold rdT
          rw [if_neg (by rw [HCK.out]; simp), HSAY.out, if_neg (by simp only; rw [hs]; simp)]
        have HNO2 : Hid (sgn L (N1 : Int) ⟨t2, t3, (N4 : Int)⟩ s = false → ((100 : Int), Cl.zero) = rdT L now s) := fun hs => HNO.out (by rw [HSAY.out]; exact hs)
        clear E1' E2' E3' E4' HSAY HU
        have HC9 := hide (ClC.new w8 t2 t3 (N4 : Int))
        have HR9 : Hid (Clz (w8.alloc (.cells #[.string (str t2), .string (str t3), .int .i64 (N4 : Int)] 24)) w.heap.size) := HR8.out.below ((Below.refl w8.heap.size w8).alloc (Nat.le_refl _) _) (Nat.le_refl _)
        have HB9 : Hid (Below w.heap.size w (w8.alloc (.cells #[.string (str t2), .string (str t3), .int .i64 (N4 : Int)] 24))) := HB8.out.alloc HB8.out.size _
        have HYN : Hid (w.heap.size < w8.heap.size) := HR8.out.lt
        by_cases hE : ¬ (E1 = 0 ∧ E2 = 0 ∧ E3 = 0 ∧ E4 = 0)
        · have HM := hide (HER.out hE)
          obtain ⟨⟨b0, b1, b2⟩, f0, f1, f2⟩ := HR8.out.facts
          have HB10 : ∀ x y z o, Hid (Below w.heap.size w ((((w8.setCell ⟨w.heap.size, 0, none⟩ x).setCell ⟨w.heap.size, 1, none⟩ y).setCell ⟨w.heap.size, 2, none⟩ z).alloc o)) := fun x y z o => (below_set3 HB8.out (Nat.le_refl _) (Nat.le_refl _) x y z).alloc (below_set3 HB8.out (Nat.le_refl _) (Nat.le_refl _) x y z).size o
          have hy := HYN.out
          clear HER HRD HNO2 HNO HC9
          have key : E1 ≠ 0 ∨ (E1 = 0 ∧ E2 ≠ 0) ∨ (E1 = 0 ∧ E2 = 0 ∧ E3 ≠ 0) ∨ (E1 = 0 ∧ E2 = 0 ∧ E3 = 0 ∧ E4 ≠ 0) := by omega
          clear hE
          rcases key with k1 | ⟨rfl, k1⟩ | ⟨rfl, rfl, k1⟩ | ⟨rfl, rfl, rfl, k1⟩
          · have g1 : ((E1 : Int) != 0) = true := by simp; omega
            have gg1 : ((E1 : Int) == 0) = false := by simp; omega
            go_wp2
            refine bodyPost_ret (v := .tuple #[.agg #[.string ⟨#[]⟩, .string ⟨#[]⟩, .int .i64 0], .int .i64 100]) (by simp [results, Tryd.results16, go_sem, b0, b1, b2, hy]) rfl ⟨100, [], [], 0, rfl, HM, HB10 _ _ _ _⟩
          · have g2 : ((E2 : Int) != 0) = true := by simp; omega
            have gg2 : ((E2 : Int) == 0) = false := by simp; omega
            go_wp2
            refine bodyPost_ret (v := .tuple #[.agg #[.string ⟨#[]⟩, .string ⟨#[]⟩, .int .i64 0], .int .i64 100]) (by simp [results, Tryd.results16, go_sem, b0, b1, b2, hy]) rfl ⟨100, [], [], 0, rfl, HM, HB10 _ _ _ _⟩
          · have g3 : ((E3 : Int) != 0) = true := by simp; omega
            have gg3 : ((E3 : Int) == 0) = false := by simp; omega
            go_wp2
            refine bodyPost_ret (v := .tuple #[.agg #[.string ⟨#[]⟩, .string ⟨#[]⟩, .int .i64 0], .int .i64 100]) (by simp [results, Tryd.results16, go_sem, b0, b1, b2, hy]) rfl ⟨100, [], [], 0, rfl, HM, HB10 _ _ _ _⟩
          · have g4 : ((E4 : Int) != 0) = true := by simp; omega
            have gg4 : ((E4 : Int) == 0) = false := by simp; omega
            go_wp2
            refine bodyPost_ret (v := .tuple #[.agg #[.string ⟨#[]⟩, .string ⟨#[]⟩, .int .i64 0], .int .i64 100]) (by simp [results, Tryd.results16, go_sem, b0, b1, b2, hy]) rfl ⟨100, [], [], 0, rfl, HM, HB10 _ _ _ _⟩
        obtain ⟨rfl, rfl, rfl, rfl⟩ : E1 = 0 ∧ E2 = 0 ∧ E3 = 0 ∧ E4 = 0 := Classical.not_not.1 hE
        clear hE HER HNO HR8
        go_wp2_with fail
        generalize w8.alloc (.cells #[.string (str t2), .string (str t3), .int .i64 (N4 : Int)] 24) = w9 at *
        generalize w8.heap.size = Y at *
        refine (rclaim_any t2 t3 (N4 : Int) w9 (by omega) (by omega)).mono ?_
        rintro e w10 ⟨E5, rfl, hE5, hb10⟩
        have HR10 := hide (HR9.out.below hb10.out (Nat.le_refl _))
        have HC10 := hide (HC9.out.below hb10.out (Nat.le_refl _))
        have HB10 : Hid (Below w.heap.size w w10) := HB9.out.trans (hb10.out.mono HB9.out.size)
        clear hb10 HR9 HC9 HB9 HB8
        by_cases h50 : E5 = 0
        · subst h50
          have HCO := hide hE5.out.symm
          clear hE5
          go_wp2
          go_loopw [93] (fun v wr => ∃ j : Nat, j ≤ L.length ∧ v = .int .i64 (j : Int) ∧ Hid (∀ (q : Nat) (k : Sec), q < j → L[q]? = some k → k.1 = (N1 : Int) → tok k ⟨t2, t3, (N4 : Int)⟩ ≠ s) ∧ Hid (Clz wr w.heap.size) ∧ Hid (ClC wr Y t2 t3 (N4 : Int)) ∧ Hid (Below w.heap.size w wr)) (fun v _ => L.length - (intOf v).toNat)
          case atStart => exact ⟨0, Nat.zero_le _, rfl, (fun q k hq => by omega), HR10, HC10, HB10⟩
          case round =>
            clear HR10 HC10 HB10
            obtain ⟨j, hj, rfl, hno, hR, hC, hB⟩ := hrel
            by_cases hjl : j < L.length
            · obtain ⟨k, hk⟩ : ∃ k, L[j]? = some k := ⟨_, List.getElem?_eq_getElem hjl⟩
              obtain ⟨b, off, x, cx, rfl, c0, c1, hBs, hbl⟩ := (HS.out.below hB.out (Nat.le_refl _)).at hk
              have hmem := ckOk_mem HCK.out k (List.mem_of_getElem? hk)
              have HKK := hide hk
              obtain ⟨kid, kb⟩ := k
              simp only at c0 c1 hBs hmem
              have HBS := hide hBs
              clear hk hBs
              have hj2 : (j : Int) < (L.length : Int) := by omega
              have hRl := hR.out.lt
              have hCl := hC.out.lt
              have HA : Hid (∀ o, Hid (Below w.heap.size w (wr.alloc o)) ∧ Hid (Clz (wr.alloc o) w.heap.size) ∧ Hid (ClC (wr.alloc o) Y t2 t3 (N4 : Int)) ∧ Hid (Bs (wr.alloc o) x cx kb)) := fun o => ⟨hB.out.alloc hB.out.size o, hR.out.below ((Below.refl wr.heap.size wr).alloc (Nat.le_refl _) o) (Nat.le_refl _), hC.out.below ((Below.refl wr.heap.size wr).alloc (Nat.le_refl _) o) (Nat.le_refl _), HBS.out.alloc o⟩
              obtain ⟨k0, k1, k2⟩ := hC.out
              by_cases hid : kid = (N1 : Int)
              · subst hid
                have hidb : ((N1 : Int) == (N1 : Int)) = true := by simp
                go_wp2_with fail
                obtain ⟨hA1, hA2, hA3, hA4⟩ := HA.out (.cells #[.int .i64 (N1 : Int), .slice x kb.length cx] 42)
                generalize wr.alloc (.cells #[.int .i64 (N1 : Int), .slice x kb.length cx] 42) = wa at *
                refine (rtoken_any (N1 : Int) x cx kb t2 t3 (N4 : Int) wa hA4.out hmem.2.2 (by omega) (by omega) (by omega) (by omega) hl2 hl3).mono ?_
                rintro e wb ⟨T, rfl, hT, hbb⟩
                have HRb := hide (hA2.out.below hbb.out (Nat.le_refl _))
                have HCb := hide (hA3.out.below hbb.out (Nat.le_refl _))
                have HBb : Hid (Below w.heap.size w wb) := hA1.out.trans (hbb.out.mono hA1.out.size)
                clear hA1 hA2 hA3 hA4 HA hbb hR hC hB c0 c1 HBS k0 k1 k2
                by_cases hTs : T = s
                · subst hTs
                  have hq : ((str T).toList == (str T).toList) = true := by simp
                  have hsg : sgn L (N1 : Int) ⟨t2, t3, (N4 : Int)⟩ T = true := sg_found HCK.out HCO.out HKK.out rfl hT.out.symm
                  have hrd := HRD.out hsg
                  clear hsg
                  obtain ⟨⟨b0, b1, b2⟩, f0, f1, f2⟩ := HRb.out.facts
                  obtain ⟨y0, y1, y2⟩ := HCb.out
                  have hyn : w.heap.size ≠ Y := by have := HYN.out; omega
                  have HB11 := fun x y z => hide (below_set3 HBb.out (Nat.le_refl _) (Nat.le_refl _) x y z)
                  by_cases hnow : (N4 : Int) ≤ now
                  · rw [if_pos hnow] at hrd
                    have HM := hide hrd.symm
                    have d1 : decide ((N4 : Int) ≤ now) = true := decide_eq_true hnow
                    clear hrd
                    go_wp2
                    refine bodyPost_ret (v := .tuple #[.agg #[.string ⟨#[]⟩, .string ⟨#[]⟩, .int .i64 0], .int .i64 101]) (by simp [results, Tryd.results16, go_sem, b0, b1, b2]) rfl ⟨101, [], [], 0, rfl, HM, HB11 _ _ _⟩
                  · rw [if_neg hnow] at hrd
                    have HM := hide hrd.symm
                    have d1 : decide ((N4 : Int) ≤ now) = false := decide_eq_false hnow
                    clear hrd
                    go_wp2
                    refine bodyPost_ret (v := .tuple #[.agg #[.string (str t2), .string (str t3), .int .i64 (N4 : Int)], .int .i64 0]) (by simp [results, Tryd.results16, go_sem, b0, b1, b2]) rfl ⟨0, t2, t3, (N4 : Int), rfl, HM, HB11 _ _ _⟩
                · have hq : ((str T).toList == (str s).toList) = false := by rw [toList_str, toList_str]; simp [hTs]
                  have HNX : Hid (∀ (q : Nat) (k : Sec), q < j + 1 → L[q]? = some k → k.1 = (N1 : Int) → tok k ⟨t2, t3, (N4 : Int)⟩ ≠ s) := by
                    intro q k hq hk hkid
                    rcases Nat.lt_or_ge q j with h | h
                    · exact hno.out q k h hk hkid
                    · obtain rfl : q = j := by omega
                      rw [HKK.out] at hk
                      rw [← Option.some.inj hk, ← hT.out]
                      exact hTs
                  clear hT hno HKK
                  go_wp2
                  go_roundw
                  case rel => exact ⟨j + 1, by omega, by go_num, HNX, HRb, HCb, HBb⟩
                  case measure => simp [intOf]; omega
              · have hidb : (kid == (N1 : Int)) = false := by simp [hid]
                have HNX : Hid (∀ (q : Nat) (k : Sec), q < j + 1 → L[q]? = some k → k.1 = (N1 : Int) → tok k ⟨t2, t3, (N4 : Int)⟩ ≠ s) := by
                  intro q k hq hk hkid
                  rcases Nat.lt_or_ge q j with h | h
                  · exact hno.out q k h hk hkid
                  · obtain rfl : q = j := by omega
                    rw [HKK.out] at hk
                    rw [← Option.some.inj hk] at hkid
                    exact absurd hkid hid
                clear hno HKK
                go_wp2
                go_roundw
                case rel => exact ⟨j + 1, by omega, by go_num, HNX, (HA.out _).2.1, (HA.out _).2.2.1, (HA.out _).1⟩
                case measure => simp [intOf]; omega
            · obtain rfl : j = L.length := by omega
              have HM : Hid (((100 : Int), Cl.zero) = rdT L now s) := HNO2.out (by
                cases hs : sgn L (N1 : Int) ⟨t2, t3, (N4 : Int)⟩ s with
                | false => rfl
                | true =>
                  obtain ⟨q, k, hk, hkid, _, ht⟩ := sg_true hs
                  exact absurd ht (hno.out q k (List.getElem?_eq_some_iff.1 hk).1 hk hkid))
              obtain ⟨⟨b0, b1, b2⟩, f0, f1, f2⟩ := hR.out.facts
              have HB11 := fun x y z => hide (below_set3 hB.out (Nat.le_refl _) (Nat.le_refl _) x y z)
              go_wp2
              refine bodyPost_ret (v := .tuple #[.agg #[.string ⟨#[]⟩, .string ⟨#[]⟩, .int .i64 0], .int .i64 100]) (by simp [results, Tryd.results16, go_sem, b0, b1, b2]) rfl ⟨100, [], [], 0, rfl, HM, HB11 _ _ _⟩
        · have hEn : (E5 != 0) = true := by simp [h50]
          have hEq : (E5 == 0) = false := by simp [h50]
          have HM : Hid (((100 : Int), Cl.zero) = rdT L now s) := HNO2.out (by
            cases hs : sgn L (N1 : Int) ⟨t2, t3, (N4 : Int)⟩ s with
            | false => rfl
            | true =>
              obtain ⟨_, _, _, _, hx, _⟩ := sg_true hs
              rw [← hE5.out] at hx
              exact absurd hx h50)
          obtain ⟨⟨b0, b1, b2⟩, f0, f1, f2⟩ := HR10.out.facts
          have HB11 := fun x y z => hide (below_set3 HB10.out (Nat.le_refl _) (Nat.le_refl _) x y z)
          go_wp2
          refine bodyPost_ret (v := .tuple #[.agg #[.string ⟨#[]⟩, .string ⟨#[]⟩, .int .i64 0], .int .i64 100]) (by simp [results, Tryd.results16, go_sem, b0, b1, b2]) rfl ⟨100, [], [], 0, rfl, HM, HB11 _ _ _⟩
      · have hi2 : ¬ (i : Int) < (s.length : Int) := by omega
        go_wp2_with fail
        refine (runspell_any (str (cutP s)) wr HCL.out).mono ?_
        rintro e w3 ⟨hb3, hu3⟩
        have HR3 := hide (HR2.out.below hb3 (Nat.le_refl _))
        have HB3 : Hid (Below w.heap.size w w3) := HB2.out.trans (hb3.mono HB2.out.size)
        clear hb3 HR2 HB2
        rcases hu3 with ⟨hu, rfl⟩ | ⟨a3, c3, P, hu, rfl, ho3⟩
        · have HM : Hid (((100 : Int), Cl.zero) = rdT L now s) := HNO.out (by
            cases hs : sgn L (say s).1 (say s).2 s with
            | false => rfl
            | true =>
              obtain ⟨id, x, h1, _⟩ := sg_reads HCK.out hs
              rw [show unR (cutP s) 0 0 = none from hu] at h1
              cases h1)
          obtain ⟨⟨b0, b1, b2⟩, f0, f1, f2⟩ := HR3.out.facts
          have HB4 := fun x y z => hide (below_set3 HB3.out (Nat.le_refl _) (Nat.le_refl _) x y z)
          clear hu
          go_wp2
          refine bodyPost_ret (v := .tuple #[.agg #[.string ⟨#[]⟩, .string ⟨#[]⟩, .int .i64 0], .int .i64 100]) (by simp [results, Tryd.results16, go_sem, b0, b1, b2]) rfl ⟨100, [], [], 0, rfl, HM, HB4 _ _ _⟩
        have HU : Hid (unR (cutP s) 0 0 = some P) := hu
        have hPl : P.length ≤ 100000 := by have := un_length _ _ HU.out; have := HCL.out; omega
        have HC4 : Hid (RC (w3.alloc (.cells #[.slice a3 P.length c3, .int .i64 0] 64)) w3.heap.size a3 c3 P 0) := ⟨heap_alloc_new w3 _, ho3.toBs.alloc _, Nat.zero_le _, fun _ e => by have := (ho3.lt _ e).2; omega, by omega⟩
        have HR4 : Hid (Clz (w3.alloc (.cells #[.slice a3 P.length c3, .int .i64 0] 64)) w.heap.size) := HR3.out.below ((Below.refl w3.heap.size w3).alloc (Nat.le_refl _) _) (Nat.le_refl _)
        have HB4 : Hid (Below w.heap.size w (w3.alloc (.cells #[.slice a3 P.length c3, .int .i64 0] 64))) := HB3.out.alloc HB3.out.size _
        have HNE : Hid (w.heap.size ≠ w3.heap.size) := by have := HR3.out.lt; show _ ≠ _; omega
        have HWC : Hid (w.heap.size ≤ w3.heap.size) := HB3.out.size
        clear ho3 HR3 HB3 hu
        go_wp2_with fail
        generalize w3.alloc (.cells #[.slice a3 P.length c3, .int .i64 0] 64) = w4 at *
        generalize w3.heap.size = X at *
        refine (rnumber_any' X a3 c3 P 0 w4 HC4.out).mono ?_
        rintro e w5 ⟨N1, S1, E1, rfl, E1', hC5, hg5⟩
        have HR5 := hide (HR4.out.grown hg5 HNE.out)
        have HB5 := hide (below_curs HB4.out hg5 HB4.out.size HWC.out)
        have HC5 := hide hC5
        clear HR4 HB4 HC4 hC5 hg5
        go_wp2_with fail
        refine (rtext_any' X a3 c3 P (0 + S1) 24 w5 HC5.out (by omega) (by omega)).mono ?_
        rintro e w6 ⟨t2, E2, S2, rfl, E2', hC6, hg6⟩
        have HR6 := hide (HR5.out.grown hg6 HNE.out)
        have HB6 := hide (below_curs HB5.out hg6 HB5.out.size HWC.out)
        have HC6 := hide hC6
        clear HR5 HB5 HC5 hC6 hg6
        go_wp2_with fail
        refine (rtext_any' X a3 c3 P (0 + S1 + S2) 24 w6 HC6.out (by omega) (by omega)).mono ?_
        rintro e w7 ⟨t3, E3, S3, rfl, E3', hC7, hg7⟩
        have HR7 := hide (HR6.out.grown hg7 HNE.out)
        have HB7 := hide (below_curs HB6.out hg7 HB6.out.size HWC.out)
        have HC7 := hide hC7
        clear HR6 HB6 HC6 hC7 hg7
        go_wp2_with fail
        refine (rnumber_any' X a3 c3 P (0 + S1 + S2 + S3) w7 HC7.out).mono ?_
        rintro e w8 ⟨N4, S4, E4, rfl, E4', hC8, hg8⟩
        have HR8 := hide (HR7.out.grown hg8 HNE.out)
        have HB8 := hide (below_curs HB7.out hg8 HB7.out.size HWC.out)
        clear HR7 HB7 HC7 hC8 hg8
        have HSAY : Hid (say s = ((N1 : Int), ⟨t2, t3, (N4 : Int)⟩)) := by
          show _ = _
          unfold say
          rw [HU.out]
          exact say_parts P N1 S1 E1 E2 S2 E3 S3 N4 S4 E4 t2 t3 E1'.out E2'.out E3'.out E4'.out
        have hl2 : t2.length ≤ 24 := by have := tx_len (P.drop (0 + S1)); rw [← E2'.out] at this; exact this
        have hl3 : t3.length ≤ 24 := by have := tx_len (P.drop (0 + S1 + S2)); rw [← E3'.out] at this; exact this
        have hn1 : N1 ≤ 9223372036854775807 := by have := (rd_le (P.drop 0)).2.1; rw [← E1'.out] at this; exact this
        have hn4 : N4 ≤ 9223372036854775807 := by have := (rd_le (P.drop (0 + S1 + S2 + S3))).2.1; rw [← E4'.out] at this; exact this
        have HER : Hid (¬ (E1 = 0 ∧ E2 = 0 ∧ E3 = 0 ∧ E4 = 0) → ((100 : Int), Cl.zero) = rdT L now s) := fun hne => HNO.out (by
          cases hs : sgn L (say s).1 (say s).2 s with
          | false => rfl
          | true =>
            obtain ⟨id, x, h1, h2, h3, h4, _⟩ := sg_reads HCK.out hs
            have hP : P = pay id x := Option.some.inj (HU.out.symm.trans h1)
            have q1 := E1'.out
            have q2 := E2'.out
            have q3 := E3'.out
            have q4 := E4'.out
            rw [hP] at q1 q2 q3 q4
            exact absurd (pay_reads id x h2 h3 h4 N1 S1 E1 E2 S2 E3 S3 N4 S4 E4 t2 t3 q1 q2 q3 q4) hne)
        have HRD : Hid (sgn L (N1 : Int) ⟨t2, t3, (N4 : Int)⟩ s = true → rdT L now s = if (N4 : Int) ≤ now then (101, Cl.zero) else (0, ⟨t2, t3, (N4 : Int)⟩)) := fun hs => by
          unfold rdT
          rw [if_neg (by rw [HCK.out]; simp), HSAY.out, if_neg (by simp only; rw [hs]; simp)]
        have HNO2 : Hid (sgn L (N1 : Int) ⟨t2, t3, (N4 : Int)⟩ s = false → ((100 : Int), Cl.zero) = rdT L now s) := fun hs => HNO.out (by rw [HSAY.out]; exact hs)
        clear E1' E2' E3' E4' HSAY HU
        have HC9 := hide (ClC.new w8 t2 t3 (N4 : Int))
        have HR9 : Hid (Clz (w8.alloc (.cells #[.string (str t2), .string (str t3), .int .i64 (N4 : Int)] 24)) w.heap.size) := HR8.out.below ((Below.refl w8.heap.size w8).alloc (Nat.le_refl _) _) (Nat.le_refl _)
        have HB9 : Hid (Below w.heap.size w (w8.alloc (.cells #[.string (str t2), .string (str t3), .int .i64 (N4 : Int)] 24))) := HB8.out.alloc HB8.out.size _
        have HYN : Hid (w.heap.size < w8.heap.size) := HR8.out.lt
        by_cases hE : ¬ (E1 = 0 ∧ E2 = 0 ∧ E3 = 0 ∧ E4 = 0)
        · have HM := hide (HER.out hE)
          obtain ⟨⟨b0, b1, b2⟩, f0, f1, f2⟩ := HR8.out.facts
          have HB10 : ∀ x y z o, Hid (Below w.heap.size w ((((w8.setCell ⟨w.heap.size, 0, none⟩ x).setCell ⟨w.heap.size, 1, none⟩ y).setCell ⟨w.heap.size, 2, none⟩ z).alloc o)) := fun x y z o => (below_set3 HB8.out (Nat.le_refl _) (Nat.le_refl _) x y z).alloc (below_set3 HB8.out (Nat.le_refl _) (Nat.le_refl _) x y z).size o
          have hy := HYN.out
          clear HER HRD HNO2 HNO HC9
          have key : E1 ≠ 0 ∨ (E1 = 0 ∧ E2 ≠ 0) ∨ (E1 = 0 ∧ E2 = 0 ∧ E3 ≠ 0) ∨ (E1 = 0 ∧ E2 = 0 ∧ E3 = 0 ∧ E4 ≠ 0) := by omega
          clear hE
          rcases key with k1 | ⟨rfl, k1⟩ | ⟨rfl, rfl, k1⟩ | ⟨rfl, rfl, rfl, k1⟩
          · have g1 : ((E1 : Int) != 0) = true := by simp; omega
            have gg1 : ((E1 : Int) == 0) = false := by simp; omega
            go_wp2
            refine bodyPost_ret (v := .tuple #[.agg #[.string ⟨#[]⟩, .string ⟨#[]⟩, .int .i64 0], .int .i64 100]) (by simp [results, Tryd.results16, go_sem, b0, b1, b2, hy]) rfl ⟨100, [], [], 0, rfl, HM, HB10 _ _ _ _⟩
          · have g2 : ((E2 : Int) != 0) = true := by simp; omega
            have gg2 : ((E2 : Int) == 0) = false := by simp; omega
            go_wp2
            refine bodyPost_ret (v := .tuple #[.agg #[.string ⟨#[]⟩, .string ⟨#[]⟩, .int .i64 0], .int .i64 100]) (by simp [results, Tryd.results16, go_sem, b0, b1, b2, hy]) rfl ⟨100, [], [], 0, rfl, HM, HB10 _ _ _ _⟩
          · have g3 : ((E3 : Int) != 0) = true := by simp; omega
            have gg3 : ((E3 : Int) == 0) = false := by simp; omega
            go_wp2
            refine bodyPost_ret (v := .tuple #[.agg #[.string ⟨#[]⟩, .string ⟨#[]⟩, .int .i64 0], .int .i64 100]) (by simp [results, Tryd.results16, go_sem, b0, b1, b2, hy]) rfl ⟨100, [], [], 0, rfl, HM, HB10 _ _ _ _⟩
          · have g4 : ((E4 : Int) != 0) = true := by simp; omega
            have gg4 : ((E4 : Int) == 0) = false := by simp; omega
            go_wp2
            refine bodyPost_ret (v := .tuple #[.agg #[.string ⟨#[]⟩, .string ⟨#[]⟩, .int .i64 0], .int .i64 100]) (by simp [results, Tryd.results16, go_sem, b0, b1, b2, hy]) rfl ⟨100, [], [], 0, rfl, HM, HB10 _ _ _ _⟩
        obtain ⟨rfl, rfl, rfl, rfl⟩ : E1 = 0 ∧ E2 = 0 ∧ E3 = 0 ∧ E4 = 0 := Classical.not_not.1 hE
        clear hE HER HNO HR8
        go_wp2_with fail
        generalize w8.alloc (.cells #[.string (str t2), .string (str t3), .int .i64 (N4 : Int)] 24) = w9 at *
        generalize w8.heap.size = Y at *
        refine (rclaim_any t2 t3 (N4 : Int) w9 (by omega) (by omega)).mono ?_
        rintro e w10 ⟨E5, rfl, hE5, hb10⟩
        have HR10 := hide (HR9.out.below hb10.out (Nat.le_refl _))
        have HC10 := hide (HC9.out.below hb10.out (Nat.le_refl _))
        have HB10 : Hid (Below w.heap.size w w10) := HB9.out.trans (hb10.out.mono HB9.out.size)
        clear hb10 HR9 HC9 HB9 HB8
        by_cases h50 : E5 = 0
        · subst h50
          have HCO := hide hE5.out.symm
          clear hE5
          go_wp2
          go_loopw [93] (fun v wr => ∃ j : Nat, j ≤ L.length ∧ v = .int .i64 (j : Int) ∧ Hid (∀ (q : Nat) (k : Sec), q < j → L[q]? = some k → k.1 = (N1 : Int) → tok k ⟨t2, t3, (N4 : Int)⟩ ≠ s) ∧ Hid (Clz wr w.heap.size) ∧ Hid (ClC wr Y t2 t3 (N4 : Int)) ∧ Hid (Below w.heap.size w wr)) (fun v _ => L.length - (intOf v).toNat)
          case atStart => exact ⟨0, Nat.zero_le _, rfl, (fun q k hq => by omega), HR10, HC10, HB10⟩
          case round =>
            clear HR10 HC10 HB10
            obtain ⟨j, hj, rfl, hno, hR, hC, hB⟩ := hrel
            by_cases hjl : j < L.length
            · obtain ⟨k, hk⟩ : ∃ k, L[j]? = some k := ⟨_, List.getElem?_eq_getElem hjl⟩
              obtain ⟨b, off, x, cx, rfl, c0, c1, hBs, hbl⟩ := (HS.out.below hB.out (Nat.le_refl _)).at hk
              have hmem := ckOk_mem HCK.out k (List.mem_of_getElem? hk)
              have HKK := hide hk
              obtain ⟨kid, kb⟩ := k
              simp only at c0 c1 hBs hmem
              have HBS := hide hBs
              clear hk hBs
              have hj2 : (j : Int) < (L.length : Int) := by omega
              have hRl := hR.out.lt
              have hCl := hC.out.lt
              have HA : Hid (∀ o, Hid (Below w.heap.size w (wr.alloc o)) ∧ Hid (Clz (wr.alloc o) w.heap.size) ∧ Hid (ClC (wr.alloc o) Y t2 t3 (N4 : Int)) ∧ Hid (Bs (wr.alloc o) x cx kb)) := fun o => ⟨hB.out.alloc hB.out.size o, hR.out.below ((Below.refl wr.heap.size wr).alloc (Nat.le_refl _) o) (Nat.le_refl _), hC.out.below ((Below.refl wr.heap.size wr).alloc (Nat.le_refl _) o) (Nat.le_refl _), HBS.out.alloc o⟩
              obtain ⟨k0, k1, k2⟩ := hC.out
              by_cases hid : kid = (N1 : Int)
              · subst hid
                have hidb : ((N1 : Int) == (N1 : Int)) = true := by simp
                go_wp2_with fail
                obtain ⟨hA1, hA2, hA3, hA4⟩ := HA.out (.cells #[.int .i64 (N1 : Int), .slice x kb.length cx] 42)
                generalize wr.alloc (.cells #[.int .i64 (N1 : Int), .slice x kb.length cx] 42) = wa at *
                refine (rtoken_any (N1 : Int) x cx kb t2 t3 (N4 : Int) wa hA4.out hmem.2.2 (by omega) (by omega) (by omega) (by omega) hl2 hl3).mono ?_
                rintro e wb ⟨T, rfl, hT, hbb⟩
                have HRb := hide (hA2.out.below hbb.out (Nat.le_refl _))
                have HCb := hide (hA3.out.below hbb.out (Nat.le_refl _))
                have HBb : Hid (Below w.heap.size w wb) := hA1.out.trans (hbb.out.mono hA1.out.size)
                clear hA1 hA2 hA3 hA4 HA hbb hR hC hB c0 c1 HBS k0 k1 k2
                by_cases hTs : T = s
                · subst hTs
                  have hq : ((str T).toList == (str T).toList) = true := by simp
                  have hsg : sgn L (N1 : Int) ⟨t2, t3, (N4 : Int)⟩ T = true := sg_found HCK.out HCO.out HKK.out rfl hT.out.symm
                  have hrd := HRD.out hsg
                  clear hsg
                  obtain ⟨⟨b0, b1, b2⟩, f0, f1, f2⟩ := HRb.out.facts
                  obtain ⟨y0, y1, y2⟩ := HCb.out
                  have hyn : w.heap.size ≠ Y := by have := HYN.out; omega
                  have HB11 := fun x y z => hide (below_set3 HBb.out (Nat.le_refl _) (Nat.le_refl _) x y z)
                  by_cases hnow : (N4 : Int) ≤ now
                  · rw [if_pos hnow] at hrd
                    have HM := hide hrd.symm
                    have d1 : decide ((N4 : Int) ≤ now) = true := decide_eq_true hnow
                    clear hrd
                    go_wp2
                    refine bodyPost_ret (v := .tuple #[.agg #[.string ⟨#[]⟩, .string ⟨#[]⟩, .int .i64 0], .int .i64 101]) (by simp [results, Tryd.results16, go_sem, b0, b1, b2]) rfl ⟨101, [], [], 0, rfl, HM, HB11 _ _ _⟩
                  · rw [if_neg hnow] at hrd
                    have HM := hide hrd.symm
                    have d1 : decide ((N4 : Int) ≤ now) = false := decide_eq_false hnow
                    clear hrd
                    go_wp2
                    refine bodyPost_ret (v := .tuple #[.agg #[.string (str t2), .string (str t3), .int .i64 (N4 : Int)], .int .i64 0]) (by simp [results, Tryd.results16, go_sem, b0, b1, b2]) rfl ⟨0, t2, t3, (N4 : Int), rfl, HM, HB11 _ _ _⟩
                · have hq : ((str T).toList == (str s).toList) = false := by rw [toList_str, toList_str]; simp [hTs]
                  have HNX : Hid (∀ (q : Nat) (k : Sec), q < j + 1 → L[q]? = some k → k.1 = (N1 : Int) → tok k ⟨t2, t3, (N4 : Int)⟩ ≠ s) := by
                    intro q k hq hk hkid
                    rcases Nat.lt_or_ge q j with h | h
                    · exact hno.out q k h hk hkid
                    · obtain rfl : q = j := by omega
                      rw [HKK.out] at hk
                      rw [← Option.some.inj hk, ← hT.out]
                      exact hTs
                  clear hT hno HKK
                  go_wp2
                  go_roundw
                  case rel => exact ⟨j + 1, by omega, by go_num, HNX, HRb, HCb, HBb⟩
                  case measure => simp [intOf]; omega
              · have hidb : (kid == (N1 : Int)) = false := by simp [hid]
                have HNX : Hid (∀ (q : Nat) (k : Sec), q < j + 1 → L[q]? = some k → k.1 = (N1 : Int) → tok k ⟨t2, t3, (N4 : Int)⟩ ≠ s) := by
                  intro q k hq hk hkid
                  rcases Nat.lt_or_ge q j with h | h
                  · exact hno.out q k h hk hkid
                  · obtain rfl : q = j := by omega
                    rw [HKK.out] at hk
                    rw [← Option.some.inj hk] at hkid
                    exact absurd hkid hid
                clear hno HKK
                go_wp2
                go_roundw
                case rel => exact ⟨j + 1, by omega, by go_num, HNX, (HA.out _).2.1, (HA.out _).2.2.1, (HA.out _).1⟩
                case measure => simp [intOf]; omega
            · obtain rfl : j = L.length := by omega
              have HM : Hid (((100 : Int), Cl.zero) = rdT L now s) := HNO2.out (by
                cases hs : sgn L (N1 : Int) ⟨t2, t3, (N4 : Int)⟩ s with
                | false => rfl
                | true =>
                  obtain ⟨q, k, hk, hkid, _, ht⟩ := sg_true hs
                  exact absurd ht (hno.out q k (List.getElem?_eq_some_iff.1 hk).1 hk hkid))
              obtain ⟨⟨b0, b1, b2⟩, f0, f1, f2⟩ := hR.out.facts
              have HB11 := fun x y z => hide (below_set3 hB.out (Nat.le_refl _) (Nat.le_refl _) x y z)
              go_wp2
              refine bodyPost_ret (v := .tuple #[.agg #[.string ⟨#[]⟩, .string ⟨#[]⟩, .int .i64 0], .int .i64 100]) (by simp [results, Tryd.results16, go_sem, b0, b1, b2]) rfl ⟨100, [], [], 0, rfl, HM, HB11 _ _ _⟩
        · have hEn : (E5 != 0) = true := by simp [h50]
          have hEq : (E5 == 0) = false := by simp [h50]
          have HM : Hid (((100 : Int), Cl.zero) = rdT L now s) := HNO2.out (by
            cases hs : sgn L (N1 : Int) ⟨t2, t3, (N4 : Int)⟩ s with
            | false => rfl
            | true =>
              obtain ⟨_, _, _, _, hx, _⟩ := sg_true hs
              rw [← hE5.out] at hx
              exact absurd hx h50)
          obtain ⟨⟨b0, b1, b2⟩, f0, f1, f2⟩ := HR10.out.facts
          have HB11 := fun x y z => hide (below_set3 HB10.out (Nat.le_refl _) (Nat.le_refl _) x y z)
          go_wp2
          refine bodyPost_ret (v := .tuple #[.agg #[.string ⟨#[]⟩, .string ⟨#[]⟩, .int .i64 0], .int .i64 100]) (by simp [results, Tryd.results16, go_sem, b0, b1, b2]) rfl ⟨100, [], [], 0, rfl, HM, HB11 _ _ _⟩
#print axioms rread10_any
end Go.Proofs.YthhcaalafacjlaaDoor
end
section
set_option linter.unusedVariables false
set_option maxRecDepth 1000000
namespace Go.Proofs.YthhcaalafacjlaaDoor
open Go.RowKit

set_option maxHeartbeats 8000000 in
theorem authtokReads_walk (p : Option Addr) (cp : Nat) (L : List Sec) (now : Int) (s : List UInt8) (w : World) (h : SecR w p L) (hl : L.length ≤ maxLen) (hs : s.length ≤ maxLen) (hT : Tb w) :
    Calls Tryd.prog 4 #[.slice p L.length cp, .int .i64 now, .string (str s)] w fun e w' => e = .returned (.bool true) ∧ Below w.heap.size w w' := by
  unfold maxLen at hs
  have HS := hide h
  have HT := hide hT
  have hss : (str s).size = s.length := str_size s
  clear h hT
  have HAW : Hid (∀ W, Hid (Below w.heap.size w W) → Calls Tryd.prog 7 #[] W fun e W' => e = .returned (.bool true) ∧ Hid (Below w.heap.size w W')) := by
    intro W h
    refine (awake_any W (HT.out.below h.out HT.out.big)).mono ?_
    rintro e W' ⟨rfl, hb⟩
    exact ⟨rfl, h.out.trans (hb.mono h.out.size)⟩
  go_enter Tryd.func4, Tryd.ntmps4
  go_wp2_with fail
  refine (secrets_any p cp L w HS.out hl).mono ?_
  rintro e w2 ⟨HB2, hv⟩
  have HT2 := hide (HT.out.below HB2.out HT.out.big)
  rcases hv with rfl | ⟨d, cap, rfl, HS2, hcap, hcm, h21⟩
  · go_wp2_with (go_at_call 7; refine (HAW.out _ HB2).mono ?_; rintro e w9 ⟨rfl, hb9⟩)
    go_ret
    exact ⟨rfl, hb9.out⟩
  by_cases q1 : 65536 < s.length
  · have d1 : decide ((65536 : Int) < (s.length : Int)) = true := decide_eq_true (by omega)
    go_wp2_with (go_at_call 7; refine (HAW.out _ HB2).mono ?_; rintro e w9 ⟨rfl, hb9⟩)
    go_ret
    exact ⟨rfl, hb9.out⟩
  have d1 : decide ((65536 : Int) < (s.length : Int)) = false := decide_eq_false (by omega)
  go_wp2_with fail
  refine (read_any d cap L now s w2 HS2.out HT2.out (by omega) hcap hcm (by omega)).mono ?_
  rintro e w3 ⟨E, c, g, u, rfl, hE, hb3⟩
  have HX := hide (ClC.new w3 c g u)
  have HB4 : Hid (Below w.heap.size w (w3.alloc (.cells #[.string (str c), .string (str g), .int .i64 u] 24))) := (HB2.out.trans (hb3.out.mono HB2.out.size)).alloc (Nat.le_trans HB2.out.size hb3.out.size) _
  have HS4 : Hid (SecR (w3.alloc (.cells #[.string (str c), .string (str g), .int .i64 u] 24)) d L) := (HS2.out.below hb3.out (Nat.le_refl _)).below ((Below.refl w3.heap.size w3).alloc (Nat.le_refl _) _) (Nat.le_refl _)
  go_wp2_with fail
  generalize w3.alloc (.cells #[.string (str c), .string (str g), .int .i64 u] 24) = w4 at *
  generalize w3.heap.size = X at *
  clear hb3
  refine (rread10_any p cp L now s w4 (HS.out.below HB4.out (Nat.le_refl _)) (by omega) (by omega)).mono ?_
  rintro e w5 ⟨E', c', g', u', rfl, hE', hb5⟩
  have hh := Prod.mk.inj (hE.out.trans hE'.out.symm)
  have hh2 := hh.2
  simp only [Cl.mk.injEq] at hh2
  obtain ⟨rfl, rfl, rfl⟩ := hh2
  obtain rfl := hh.1
  have HX5 := hide (HX.out.below hb5.out (Nat.le_refl _))
  have HB5 : Hid (Below w.heap.size w w5) := HB4.out.trans (hb5.out.mono HB4.out.size)
  have HS5 := hide (HS4.out.below hb5.out (Nat.le_refl _))
  have HB6 : Hid (∀ o, Hid (Below w.heap.size w (w5.alloc o)) ∧ Hid (SecR (w5.alloc o) d L)) := fun o => ⟨HB5.out.alloc HB5.out.size o, HS5.out.below ((Below.refl w5.heap.size w5).alloc (Nat.le_refl _) o) (Nat.le_refl _)⟩
  clear hE hE' hh HX HB4 HS4 hb5 HS2 HT2
  obtain ⟨x0, x1, x2⟩ := HX5.out
  have hx := HX5.out.lt
  have hEE : (E == E) = true := by simp
  go_wp2_with fail
  refine (sames_any d cap p cp L _ (HB6.out _).2.out (HS.out.below (HB6.out _).1.out (Nat.le_refl _)) (by omega)).mono ?_
  rintro e w7 ⟨rfl, hb7⟩
  have HB7 : Hid (Below w.heap.size w w7) := (HB6.out _).1.out.trans (hb7.out.mono (HB6.out _).1.out.size)
  clear hb7 HB6 x0 x1 x2
  go_wp2_with (go_at_call 7; refine (HAW.out _ HB7).mono ?_; rintro e w10 ⟨rfl, hb10⟩)
  go_ret
  exact ⟨rfl, hb10.out⟩
#print axioms authtokReads_walk
end Go.Proofs.YthhcaalafacjlaaDoor
end
