/-
  httpd: small letters of texts of any length; values of any name (WaH's and HrC's walks, their bounds raised).
-/
import Derived.Test.YtonaekkenggmbaaGreatDoorPkHadsav
import Derived.Test.YtonaekkenggmbaaGreatDoorPkHadsaw
section
set_option linter.unusedVariables false
set_option maxRecDepth 1000000
namespace Go.Proofs.YtonaekkenggmbaaGreatDoor
open Go.RowKit

set_option maxHeartbeats 4000000 in
theorem to_mub (l : List UInt8) (w : World) (hl : l.length ≤ 140737488351232) : ∃ V c, (convert 9 28 (.string (str l))).run Tryz.prog w = .ok (.slice (some ⟨w.heap.size, 0, none⟩) l.length c) V ∧ Below w.heap.size w V ∧ Mu V w.heap.size l := by
  refine ⟨Lib.bytesWorld w 5 (str l), grownCap w (str l).size 0 5, ?_, ?_, ?_, ?_⟩
  · have := Lib.run_convert_string_bytes (P := Tryz.prog) w 9 28 5 (str l) Tryz.underlying9 Tryz.underlying28 Tryz.underlying5
    rw [this, str_size]
  · exact ⟨rfl, rfl, rfl, by rw [Lib.bytesWorld_size]; omega, fun k hk => Lib.bytesWorld_at_old w _ _ k hk⟩
  · intro i hi
    rw [Lib.bytesWorld_cell w _ (str l) i (by rw [str_size]; exact hi)]
    rfl
  · intro i hi
    unfold World.frozen?
    rw [Lib.bytesWorld_at_new]
    have hs : l.length ≤ (Lib.bytesCells w 5 (str l)).size := by
      have := Lib.bytesWorld_cell w 5 (str l) i (by rw [str_size]; exact hi)
      have hc : ∀ j, j < l.length → j < (Lib.bytesCells w 5 (str l)).size := by
        intro j hj
        have h1 := Lib.bytesWorld_cell w 5 (str l) j (by rw [str_size]; exact hj)
        rw [cell_of_row _ _ _ _ _ _ (Lib.bytesWorld_at_new w 5 (str l))] at h1
        exact (Array.getElem?_eq_some_iff.1 h1).1
      exact Nat.le_of_not_lt fun h => by have := hc _ h; omega
    simp
    omega
set_option maxHeartbeats 4000000 in
theorem small_big (l : List UInt8) (w : World) (hl : l.length ≤ 140737488351232) :
    Calls Tryz.prog 57 #[.string (str l)] w fun e w' => e = .returned (.string (str (sm l))) ∧ Below w.heap.size w w' := by
  obtain ⟨V, c, hconv, hbV, hmu⟩ := to_mub l w hl
  have HM0 : Hid (Mu V w.heap.size (pl l 0)) := by show Mu _ _ _; rw [pl_zero]; exact hmu
  have HB0 := hide hbV
  have hgV : w.heap.size < V.heap.size ∨ l = [] := by
    by_cases h : l = []
    · exact .inr h
    · exact .inl (World.block_lt_of_cell? V _ (hmu.cells 0 (List.length_pos_iff.2 h)))
  clear hmu hbV hgV
  go_enter Tryz.func57, Tryz.ntmps57
  go_wp2
  clear hconv
  go_loopw [10] (fun v wr => ∃ k : Nat, k ≤ l.length ∧ v = .int .i64 (k : Int) ∧ Hid (Mu wr w.heap.size (pl l k)) ∧ Hid (Below w.heap.size w wr)) (fun v _ => l.length - (intOf v).toNat)
  case atStart => exact ⟨0, Nat.zero_le _, rfl, HM0, HB0⟩
  case round =>
    clear HM0 HB0
    obtain ⟨k, hk, rfl, hm, hb⟩ := hrel
    by_cases hlt : k < l.length
    · have c0 := (unhide hm).cells k (by rw [pl_length]; exact hlt)
      have f0 := (unhide hm).thaw k (by rw [pl_length]; exact hlt)
      rw [pl_get l k k hlt, if_neg (by omega)] at c0
      have hlt' : (k : Int) < (l.length : Int) := by omega
      obtain ⟨x, hx⟩ : ∃ x, l.getD k 0 = x := ⟨_, rfl⟩
      rw [hx] at c0
      have hx256 := x.toNat_lt
      obtain ⟨X, hX⟩ : ∃ X, x.toNat = X := ⟨_, rfl⟩
      rw [hX] at c0 hx256
      by_cases h1 : 65 ≤ X
      · by_cases h2 : X ≤ 90
        · have d1 : decide ((65 : Int) ≤ (X : Int)) = true := decide_eq_true (by omega)
          have d2 : decide ((X : Int) ≤ 90) = true := decide_eq_true (by omega)
          obtain ⟨Y, hY⟩ : ∃ Y : Nat, Y = X - 65 := ⟨_, rfl⟩
          obtain ⟨Z, hZ⟩ : ∃ Z : Nat, Z = X + 32 := ⟨_, rfl⟩
          have e1 : (X : Int) - 65 = (Y : Int) := by omega
          have e2 : (Y : Int) + 97 = (Z : Int) := by omega
          have e3 : (X : Int) + 32 = (Z : Int) := by omega
          have hY2 : Y ≤ 25 := by omega
          have hZ2 : Z ≤ 122 := by omega
          have hzl : ((lowB (l.getD k 0)).toNat : Int) = (Z : Int) := by rw [hx, low_nat x (by omega), hX]; omega
          have HM := hide ((unhide hm).set k (lowB (l.getD k 0)) (by rw [pl_length]; exact hlt))
          rw [pl_succ l k hlt, hzl] at HM
          have HB : Hid (Below w.heap.size w (wr.setCell ⟨w.heap.size, k, none⟩ (.int .u8 (Z : Int)))) := hb.out.grown (gsc wr _ _) hb.out.size (fun j hj => by rw [← Option.some.inj hj]; exact Nat.le_refl _)
          clear hm hb hx hX hY hZ hzl h1 h2
          go_wp2
          go_roundw
          case rel => exact ⟨k + 1, by omega, by go_num, HM, HB⟩
          case measure => simp [intOf]; omega
        · have d1 : decide ((65 : Int) ≤ (X : Int)) = true := decide_eq_true (by omega)
          have d2 : decide ((X : Int) ≤ 90) = false := decide_eq_false (by omega)
          have HM : Hid (Mu wr w.heap.size (pl l (k + 1))) := by show Mu _ _ _; rw [pl_stay l k hlt (by rw [hx]; omega)]; exact unhide hm
          clear hm hx hX h1 h2
          go_wp2
          go_roundw
          case rel => exact ⟨k + 1, by omega, by go_num, HM, hb⟩
          case measure => simp [intOf]; omega
      · have d1 : decide ((65 : Int) ≤ (X : Int)) = false := decide_eq_false (by omega)
        have HM : Hid (Mu wr w.heap.size (pl l (k + 1))) := by show Mu _ _ _; rw [pl_stay l k hlt (by rw [hx]; omega)]; exact unhide hm
        clear hm hx hX h1
        go_wp2
        go_roundw
        case rel => exact ⟨k + 1, by omega, by go_num, HM, hb⟩
        case measure => simp [intOf]; omega
    · obtain rfl : k = l.length := by omega
      have hlt' : ¬ (l.length : Int) < (l.length : Int) := by omega
      have hr := (unhide hm).row
      rw [pl_all] at hr
      have k1 := run_str wr (some ⟨w.heap.size, 0, none⟩) l.length c (sm l) hr (by rw [sm_length])
      clear hm hr hlt
      go_wp2
      go_ret
      exact ⟨rfl, unhide hb⟩
set_option maxHeartbeats 4000000 in
theorem rsmall_big (s : List UInt8) (w : World) (hs : s.length ≤ 140737488351232) :
    Calls Tryz.prog 49 #[.string (str s)] w fun e w' => e = .returned (.string (str (sm s))) ∧ Hid (Below w.heap.size w w') := by
  have z1 : (str s).size = s.length := str_size s
  go_enter Tryz.func49, Tryz.ntmps49
  go_wp2
  go_loopw [3, 8] (fun v i wr => ∃ (k : Nat) (o : List UInt8), k ≤ s.length ∧ v = .string (str o) ∧ i = .int .i64 (k : Int) ∧ Hid (o = sm (s.take k)) ∧ o.length ≤ 140737488351232 ∧ Hid (Below w.heap.size w wr)) (fun _ i _ => s.length - (intOf i).toNat)
  case atStart => exact ⟨0, [], Nat.zero_le _, rfl, rfl, rfl, by simp, Below.refl _ _⟩
  case round =>
    obtain ⟨k, o, hk, rfl, rfl, HO, hol, HB⟩ := hrel
    by_cases hlt : k < s.length
    · have hlt' : (k : Int) < (s.length : Int) := by omega
      obtain ⟨c, hc⟩ : ∃ c, s.getD k 0 = c := ⟨_, rfl⟩
      have hix : ∀ w, (Instr.index 9 (.string (str s)) (.int .i64 (k : Int))).run Tryz.prog w = .ok (.int .u8 (c.toNat : Int)) w := fun w => by rw [← hc]; exact run_ixs w s k hlt
      have HLK : Hid (s[k]? = some c) := by show _ = _; rw [List.getElem?_eq_getElem hlt, ← hc, List.getD_eq_getElem?_getD, List.getElem?_eq_getElem hlt]; rfl
      have HI := hide (is2_any c wr)
      clear hc
      obtain ⟨x, hx⟩ : ∃ x, x = lowB c := ⟨_, rfl⟩
      have HO2 : Hid (o ++ [x] = sm (s.take (k + 1))) := by show _ = _; rw [sm_snoc s k c (unhide HLK), unhide HO, hx]
      have hol2 : (o ++ [x]).length ≤ 140737488351232 := by
        rw [unhide HO2]; simp [sm]; omega
      have hcat : str o ++ str [x] = str (o ++ [x]) := str_app o [x]
      have zo : (str o).size = o.length := str_size o
      have zx : (str [x]).size = 1 := str_size [x]
      cases hp : isM 2 c with
      | true =>
        obtain ⟨h32, h90⟩ := low2 c hp
        rw [← hx] at h32
        rw [hp] at HI
        clear hp hx
        go_wp2_with fail
        refine (unhide HI).mono ?_
        rintro e w1 ⟨rfl, HB1⟩
        clear HI
        have kc : (convert 28 9 (.slice (some ⟨w1.heap.size, 0, none⟩) 1 1)).run Tryz.prog (w1.alloc (.cells #[.int .u8 ((c.toNat : Int) + 32)] 5)) = .ok (.string (str [x])) (w1.alloc (.cells #[.int .u8 ((c.toNat : Int) + 32)] 5)) := by
          rw [← h32]
          exact run_str _ _ _ _ _ (bsc w1 _ [x] rfl (0, 0) (by simp)).row rfl
        have HB2 : Hid (Below w.heap.size w (w1.alloc (.cells #[.int .u8 ((c.toNat : Int) + 32)] 5))) := ((unhide HB).trans ((unhide HB1).mono (unhide HB).size)).alloc (Nat.le_trans (unhide HB).size (unhide HB1).size) _
        go_wp2
        go_roundw
        case rel => exact ⟨k + 1, o ++ [x], by omega, rfl, by go_num, HO2, hol2, HB2⟩
        case measure => simp [intOf]; omega
      | false =>
        have hxc : x = c := by rw [hx]; exact low0 c hp
        subst hxc
        rw [hp] at HI
        clear hp hx
        go_wp2_with fail
        refine (unhide HI).mono ?_
        rintro e w1 ⟨rfl, HB1⟩
        clear HI
        have kc : (convert 28 9 (.slice (some ⟨w1.heap.size, 0, none⟩) 1 1)).run Tryz.prog (w1.alloc (.cells #[.int .u8 (x.toNat : Int)] 5)) = .ok (.string (str [x])) (w1.alloc (.cells #[.int .u8 (x.toNat : Int)] 5)) := run_str _ _ _ _ _ (bsc w1 _ [x] rfl (0, 0) (by simp)).row rfl
        have HB2 : Hid (Below w.heap.size w (w1.alloc (.cells #[.int .u8 (x.toNat : Int)] 5))) := ((unhide HB).trans ((unhide HB1).mono (unhide HB).size)).alloc (Nat.le_trans (unhide HB).size (unhide HB1).size) _
        go_wp2
        go_roundw
        case rel => exact ⟨k + 1, o ++ [x], by omega, rfl, by go_num, HO2, hol2, HB2⟩
        case measure => simp [intOf]; omega
    · obtain rfl : k = s.length := by omega
      have HF : Hid (o = sm s) := by have := unhide HO; rw [List.take_length] at this; exact this
      clear hlt
      go_wp2
      go_ret
      exact ⟨by rw [← unhide HF]; rfl, HB⟩
set_option maxHeartbeats 4000000 in
theorem values_of (nm0 : List UInt8) (hnl : nm0.length ≤ 140737488351232) (p : Option Addr) (cp : Nat) (H : List Hd) (w : World) (h : HdR w p H) (hS : HdS H) (hl : H.length ≤ 1000000) :
    Calls Tryz.prog 48 #[.slice p H.length cp, .string (str nm0)] w fun e w' => ∃ a c L, e = .returned (.slice a L.length c) ∧ Hid (L = vals (sm nm0) H) ∧ Hid (OwnN w' w.heap.size a c L) ∧ Hid (Below w.heap.size w w') := by
  have HH := hide h
  have HSM := hide (small_big nm0 w hnl)
  generalize sm nm0 = nm at *
  have HSS := hide hS
  clear h hS
  go_enter Tryz.func48, Tryz.ntmps48
  go_wp2_with (go_at_call 57; refine (unhide HSM).mono ?_; rintro e w1 ⟨rfl, hb1⟩)
  have HB1 := hide hb1
  clear hb1
  go_loopw [5, 12] (fun v i wr => ∃ k : Nat, k ≤ H.length ∧ i = .int .i64 (k : Int) ∧ ∃ a c L, v = .slice a L.length c ∧ Hid (L = valsTo nm H k) ∧ Hid (OwnN wr w.heap.size a c L) ∧ Hid (Below w.heap.size w wr)) (fun _ i _ => H.length - (intOf i).toNat)
  case atStart => exact ⟨0, Nat.zero_le _, rfl, none, 0, [], rfl, rfl, OwnN.nil _ _, HB1⟩
  case round =>
    clear HB1
    obtain ⟨k, hk, rfl, a, c, L, rfl, HL, HO, HB⟩ := hrel
    by_cases hlt : k < H.length
    · obtain ⟨d, hd⟩ : ∃ d, H[k]? = some d := ⟨_, List.getElem?_eq_getElem hlt⟩
      obtain ⟨b, off, hpe, hc⟩ := ((unhide HH).below (unhide HB) (Nat.le_refl _)).mem (by intro e; subst e; simp at hd)
      subst hpe
      obtain ⟨c0, c1⟩ := hc k d hd
      have hs := unhide HSS k d hd
      have HST := hide (vals_step nm H k d hd)
      have hlt' : (k : Int) < (H.length : Int) := by omega
      have hLl : L.length ≤ 1000000 := by rw [unhide HL]; have := vals_len nm H k; omega
      obtain ⟨wd, hwd⟩ : ∃ wd, wd = wr.alloc (.cells #[.string (str d.1), .string (str d.2)] 49) := ⟨_, rfl⟩
      have hbd : Below wr.heap.size wr wd := by rw [hwd]; exact (Below.refl _ _).alloc (Nat.le_refl _) _
      have hZ : wd.heap[wr.heap.size]? = some (.cells #[.string (str d.1), .string (str d.2)] 49 (0, 0)) := by rw [hwd]; exact heap_alloc_new wr _
      have z0 : wd.cell? ⟨wr.heap.size, 0, none⟩ = some (.string (str d.1)) := by rw [cell_of_row wd wr.heap.size 0 _ _ _ hZ]; rfl
      have HZ := hide hZ
      have HOd := hide ((unhide HO).below hbd (Nat.le_refl _))
      have HBd := hide ((unhide HB).trans (hbd.mono (unhide HB).size))
      have hwl : wr.heap.size < wd.heap.size := (Array.getElem?_eq_some_iff.1 hZ).1
      clear hc hd hbd hZ HO HB
      go_upto_region 6 with fail
      rw [← hwd]
      clear hwd c0 c1
      obtain ⟨q, hq⟩ : ∃ q, (sm d.1 == nm) = q := ⟨_, rfl⟩
      have hq2 : ((str (sm d.1)).toList == (str nm).toList) = q := by rw [str_beq, hq]
      have HQ := hide hq
      clear hq
      cases q with
      | false =>
        have HL2 : Hid (L = valsTo nm H (k + 1)) := by
          show _ = _
          rw [unhide HST, if_neg (by intro e; have := unhide HQ; rw [e] at this; simp at this)]
          exact unhide HL
        go_wp2_with (go_at_call 57; refine (small_any d.1 wd hs.1).mono ?_; rintro e w3 ⟨rfl, hb3⟩; have HB3 := hide hb3; clear hb3)
        have HO3 := hide ((unhide HOd).below (unhide HB3) (Nat.le_refl _))
        have HB4 := hide ((unhide HBd).trans ((unhide HB3).mono (unhide HBd).size))
        go_roundw
        case rel => exact ⟨k + 1, by omega, by go_num, a, c, L, rfl, HL2, HO3, HB4⟩
        case measure => simp [intOf]; omega
      | true =>
        have HL2 : Hid (valsTo nm H (k + 1) = L ++ [d.2]) := by
          show _ = _
          rw [unhide HST, if_pos (by simpa using unhide HQ), ← unhide HL]
        go_upto_region 7 with (go_at_call 57; refine (small_any d.1 wd hs.1).mono ?_; rintro e w3 ⟨rfl, hb3⟩; have HB3 := hide hb3; clear hb3)
        have HO3 := hide ((unhide HOd).below (unhide HB3) (Nat.le_refl _))
        have HB4 := hide ((unhide HBd).trans ((unhide HB3).mono (unhide HBd).size))
        have hZ3 := ((unhide HB3).block _ hwl).trans (unhide HZ)
        have z1 : w3.cell? ⟨wr.heap.size, 1, none⟩ = some (.string (str d.2)) := by rw [cell_of_row w3 wr.heap.size 1 _ _ _ hZ3]; rfl
        have hsz4 := (unhide HB4).size
        clear hZ3
        go_wp2_with (at_builtin; refine wp_appn _ rfl _ _ rfl w.heap.size a c L rfl ((unhide HO3).alloc _) w3.heap.size 1 d.2 rfl ?c1 (by omega) ?c2 ?_)
        case c1 => rw [cell_of_row _ w3.heap.size 0 _ _ _ (heap_alloc_new w3 _)]; rfl
        case c2 => simp; omega
        intro a5 c5 r5 w5 hr5 ho5 hg5
        have HR5 : Hid (r5 = valsTo nm H (k + 1)) := by show _ = _; rw [hr5.out, unhide HL2]
        have HB5 : Hid (Below w.heap.size w w5) := below_grown ((unhide HB4).alloc (unhide HB4).size _) hg5 (Nat.le_refl _) (fun j hj => ((unhide HO3).lt j hj).1)
        have HO5 := hide ho5
        clear hr5 hg5 ho5
        go_wp2
        go_roundw
        case rel => exact ⟨k + 1, by omega, by go_num, a5, c5, r5, rfl, HR5, HO5, HB5⟩
        case measure => simp [intOf]; omega
    · have hlt' : ¬ (k : Int) < (H.length : Int) := by omega
      have HLL : Hid (L = vals nm H) := by
        show _ = _
        rw [unhide HL]
        unfold valsTo
        rw [List.take_of_length_le (by omega)]
      clear hlt
      go_wp2
      go_ret
      exact ⟨a, c, L, rfl, HLL, HO, HB⟩
#print axioms values_of
#print axioms rsmall_big
end Go.Proofs.YtonaekkenggmbaaGreatDoor
end
