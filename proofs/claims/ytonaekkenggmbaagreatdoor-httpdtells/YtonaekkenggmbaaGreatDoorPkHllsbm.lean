/-
  httpd: small letters of texts of any length; values of any name (WaH's and HrC's walks, their bounds raised).; httpd: Find, the program's and the reference's.; httpd: Keeps, the program's and the reference's.; httpd: the reference's Keeps.
-/
import Derived.Test.YtonaekkenggmbaaGreatDoorPkHllsbf
import Derived.Test.YtonaekkenggmbaaGreatDoorPkHllsbb
import Derived.Test.YtonaekkenggmbaaGreatDoorPkHllsbg
import Derived.Deep.RegionLaw
section
set_option linter.unusedVariables false
set_option maxRecDepth 1000000
namespace Go.Proofs.YtonaekkenggmbaaGreatDoor
open Go.RowKit

set_option maxHeartbeats 4000000 in
theorem to_mub (l : List UInt8) (w : World) (hl : l.length ≤ 140737488351232) : ∃ V c, (convert 9 28 (.string (str l))).run Tryz.prog w = .ok (.slice (some ⟨w.heap.size, 0, none⟩) l.length c) V ∧ Below w.heap.size w V ∧ Mu V w.heap.size l := by
  refine ⟨Lib.bytesWorld w 5 (str l), grownCap w (str l).size 0 5, ?_, ?_, ?_, ?_⟩
  · have := Lib.run_convert_string_bytes (P := Tryz.prog) w 9 28 5 (str l) Tryz.underlying9 Tryz.underlying28 Tryz.underlying5
    rw [this, str_size]
  · exact ⟨rfl, rfl, rfl, by rw [Lib.bytesWorld_size]; omega, fun k hk => Lib.bytesWorld_at_old w _ _ k hk⟩
  · intro i hi
    rw [Lib.bytesWorld_cell w _ (str l) i (by rw [str_size]; exact hi)]
    rfl
  · intro i hi
    unfold World.frozen?
    rw [Lib.bytesWorld_at_new]
    have hs : l.length ≤ (Lib.bytesCells w 5 (str l)).size := by
      have := Lib.bytesWorld_cell w 5 (str l) i (by rw [str_size]; exact hi)
      have hc : ∀ j, j < l.length → j < (Lib.bytesCells w 5 (str l)).size := by
        intro j hj
        have h1 := Lib.bytesWorld_cell w 5 (str l) j (by rw [str_size]; exact hj)
        rw [cell_of_row _ _ _ _ _ _ (Lib.bytesWorld_at_new w 5 (str l))] at h1
        exact (Array.getElem?_eq_some_iff.1 h1).1
      exact Nat.le_of_not_lt fun h => by have := hc _ h; omega
    simp
    omega
set_option maxHeartbeats 4000000 in
theorem small_big (l : List UInt8) (w : World) (hl : l.length ≤ 140737488351232) :
    Calls Tryz.prog 57 #[.string (str l)] w fun e w' => e = .returned (.string (str (sm l))) ∧ Below w.heap.size w w' := by
  obtain ⟨V, c, hconv, hbV, hmu⟩ := to_mub l w hl
  have HM0 : Hid (Mu V w.heap.size (pl l 0)) := by show Mu _ _ _; rw [pl_zero]; exact hmu
  have HB0 := hide hbV
  have hgV : w.heap.size < V.heap.size ∨ l = [] := by
    by_cases h : l = []
    · exact .inr h
    · exact .inl (World.block_lt_of_cell? V _ (hmu.cells 0 (List.length_pos_iff.2 h)))
  clear hmu hbV hgV
  go_enter Tryz.func57, Tryz.ntmps57
  go_wp2
  clear hconv
  go_loopw [10] (fun v wr => ∃ k : Nat, k ≤ l.length ∧ v = .int .i64 (k : Int) ∧ Hid (Mu wr w.heap.size (pl l k)) ∧ Hid (Below w.heap.size w wr)) (fun v _ => l.length - (intOf v).toNat)
  case atStart => exact ⟨0, Nat.zero_le _, rfl, HM0, HB0⟩
  case round =>
    clear HM0 HB0
    obtain ⟨k, hk, rfl, hm, hb⟩ := hrel
    by_cases hlt : k < l.length
    · have c0 := (unhide hm).cells k (by rw [pl_length]; exact hlt)
      have f0 := (unhide hm).thaw k (by rw [pl_length]; exact hlt)
      rw [pl_get l k k hlt, if_neg (by omega)] at c0
      have hlt' : (k : Int) < (l.length : Int) := by omega
      obtain ⟨x, hx⟩ : ∃ x, l.getD k 0 = x := ⟨_, rfl⟩
      rw [hx] at c0
      have hx256 := x.toNat_lt
      obtain ⟨X, hX⟩ : ∃ X, x.toNat = X := ⟨_, rfl⟩
      rw [hX] at c0 hx256
      by_cases h1 : 65 ≤ X
      · by_cases h2 : X ≤ 90
        · have d1 : decide ((65 : Int) ≤ (X : Int)) = true := decide_eq_true (by omega)
          have d2 : decide ((X : Int) ≤ 90) = true := decide_eq_true (by omega)
          obtain ⟨Y, hY⟩ : ∃ Y : Nat, Y = X - 65 := ⟨_, rfl⟩
          obtain ⟨Z, hZ⟩ : ∃ Z : Nat, Z = X + 32 := ⟨_, rfl⟩
          have e1 : (X : Int) - 65 = (Y : Int) := by omega
          have e2 : (Y : Int) + 97 = (Z : Int) := by omega
          have e3 : (X : Int) + 32 = (Z : Int) := by omega
          have hY2 : Y ≤ 25 := by omega
          have hZ2 : Z ≤ 122 := by omega
          have hzl : ((lowB (l.getD k 0)).toNat : Int) = (Z : Int) := by rw [hx, low_nat x (by omega), hX]; omega
          have HM := hide ((unhide hm).set k (lowB (l.getD k 0)) (by rw [pl_length]; exact hlt))
          rw [pl_succ l k hlt, hzl] at HM
          have HB : Hid (Below w.heap.size w (wr.setCell ⟨w.heap.size, k, none⟩ (.int .u8 (Z : Int)))) := hb.out.grown (gsc wr _ _) hb.out.size (fun j hj => by rw [← Option.some.inj hj]; exact Nat.le_refl _)
          clear hm hb hx hX hY hZ hzl h1 h2
          go_wp2
          go_roundw
          case rel => exact ⟨k + 1, by omega, by go_num, HM, HB⟩
          case measure => simp [intOf]; omega
        · have d1 : decide ((65 : Int) ≤ (X : Int)) = true := decide_eq_true (by omega)
          have d2 : decide ((X : Int) ≤ 90) = false := decide_eq_false (by omega)
          have HM : Hid (Mu wr w.heap.size (pl l (k + 1))) := by show Mu _ _ _; rw [pl_stay l k hlt (by rw [hx]; omega)]; exact unhide hm
          clear hm hx hX h1 h2
          go_wp2
          go_roundw
          case rel => exact ⟨k + 1, by omega, by go_num, HM, hb⟩
          case measure => simp [intOf]; omega
      · have d1 : decide ((65 : Int) ≤ (X : Int)) = false := decide_eq_false (by omega)
        have HM : Hid (Mu wr w.heap.size (pl l (k + 1))) := by show Mu _ _ _; rw [pl_stay l k hlt (by rw [hx]; omega)]; exact unhide hm
        clear hm hx hX h1
        go_wp2
        go_roundw
        case rel => exact ⟨k + 1, by omega, by go_num, HM, hb⟩
        case measure => simp [intOf]; omega
    · obtain rfl : k = l.length := by omega
      have hlt' : ¬ (l.length : Int) < (l.length : Int) := by omega
      have hr := (unhide hm).row
      rw [pl_all] at hr
      have k1 := run_str wr (some ⟨w.heap.size, 0, none⟩) l.length c (sm l) hr (by rw [sm_length])
      clear hm hr hlt
      go_wp2
      go_ret
      exact ⟨rfl, unhide hb⟩
set_option maxHeartbeats 4000000 in
theorem rsmall_big (s : List UInt8) (w : World) (hs : s.length ≤ 140737488351232) :
    Calls Tryz.prog 49 #[.string (str s)] w fun e w' => e = .returned (.string (str (sm s))) ∧ Hid (Below w.heap.size w w') := by
  have z1 : (str s).size = s.length := str_size s
  go_enter Tryz.func49, Tryz.ntmps49
  go_wp2
  go_loopw [3, 8] (fun v i wr => ∃ (k : Nat) (o : List UInt8), k ≤ s.length ∧ v = .string (str o) ∧ i = .int .i64 (k : Int) ∧ Hid (o = sm (s.take k)) ∧ o.length ≤ 140737488351232 ∧ Hid (Below w.heap.size w wr)) (fun _ i _ => s.length - (intOf i).toNat)
  case atStart => exact ⟨0, [], Nat.zero_le _, rfl, rfl, rfl, by simp, Below.refl _ _⟩
  case round =>
    obtain ⟨k, o, hk, rfl, rfl, HO, hol, HB⟩ := hrel
    by_cases hlt : k < s.length
    · have hlt' : (k : Int) < (s.length : Int) := by omega
      obtain ⟨c, hc⟩ : ∃ c, s.getD k 0 = c := ⟨_, rfl⟩
      have hix : ∀ w, (Instr.index 9 (.string (str s)) (.int .i64 (k : Int))).run Tryz.prog w = .ok (.int .u8 (c.toNat : Int)) w := fun w => by rw [← hc]; exact run_ixs w s k hlt
      have HLK : Hid (s[k]? = some c) := by show _ = _; rw [List.getElem?_eq_getElem hlt, ← hc, List.getD_eq_getElem?_getD, List.getElem?_eq_getElem hlt]; rfl
      have HI := hide (is2_any c wr)
      clear hc
      obtain ⟨x, hx⟩ : ∃ x, x = lowB c := ⟨_, rfl⟩
      have HO2 : Hid (o ++ [x] = sm (s.take (k + 1))) := by show _ = _; rw [sm_snoc s k c (unhide HLK), unhide HO, hx]
      have hol2 : (o ++ [x]).length ≤ 140737488351232 := by
        rw [unhide HO2]; simp [sm]; omega
      have hcat : str o ++ str [x] = str (o ++ [x]) := str_app o [x]
      have zo : (str o).size = o.length := str_size o
      have zx : (str [x]).size = 1 := str_size [x]
      cases hp : isM 2 c with
      | true =>
        obtain ⟨h32, h90⟩ := low2 c hp
        rw [← hx] at h32
        rw [hp] at HI
        clear hp hx
        go_wp2_with fail
        refine (unhide HI).mono ?_
        rintro e w1 ⟨rfl, HB1⟩
        clear HI
        have kc : (convert 28 9 (.slice (some ⟨w1.heap.size, 0, none⟩) 1 1)).run Tryz.prog (w1.alloc (.cells #[.int .u8 ((c.toNat : Int) + 32)] 5)) = .ok (.string (str [x])) (w1.alloc (.cells #[.int .u8 ((c.toNat : Int) + 32)] 5)) := by
          rw [← h32]
          exact run_str _ _ _ _ _ (bsc w1 _ [x] rfl (0, 0) (by simp)).row rfl
        have HB2 : Hid (Below w.heap.size w (w1.alloc (.cells #[.int .u8 ((c.toNat : Int) + 32)] 5))) := ((unhide HB).trans ((unhide HB1).mono (unhide HB).size)).alloc (Nat.le_trans (unhide HB).size (unhide HB1).size) _
        go_wp2
        go_roundw
        case rel => exact ⟨k + 1, o ++ [x], by omega, rfl, by go_num, HO2, hol2, HB2⟩
        case measure => simp [intOf]; omega
      | false =>
        have hxc : x = c := by rw [hx]; exact low0 c hp
        subst hxc
        rw [hp] at HI
        clear hp hx
        go_wp2_with fail
        refine (unhide HI).mono ?_
        rintro e w1 ⟨rfl, HB1⟩
        clear HI
        have kc : (convert 28 9 (.slice (some ⟨w1.heap.size, 0, none⟩) 1 1)).run Tryz.prog (w1.alloc (.cells #[.int .u8 (x.toNat : Int)] 5)) = .ok (.string (str [x])) (w1.alloc (.cells #[.int .u8 (x.toNat : Int)] 5)) := run_str _ _ _ _ _ (bsc w1 _ [x] rfl (0, 0) (by simp)).row rfl
        have HB2 : Hid (Below w.heap.size w (w1.alloc (.cells #[.int .u8 (x.toNat : Int)] 5))) := ((unhide HB).trans ((unhide HB1).mono (unhide HB).size)).alloc (Nat.le_trans (unhide HB).size (unhide HB1).size) _
        go_wp2
        go_roundw
        case rel => exact ⟨k + 1, o ++ [x], by omega, rfl, by go_num, HO2, hol2, HB2⟩
        case measure => simp [intOf]; omega
    · obtain rfl : k = s.length := by omega
      have HF : Hid (o = sm s) := by have := unhide HO; rw [List.take_length] at this; exact this
      clear hlt
      go_wp2
      go_ret
      exact ⟨by rw [← unhide HF]; rfl, HB⟩
set_option maxHeartbeats 4000000 in
theorem values_of (nm0 : List UInt8) (hnl : nm0.length ≤ 140737488351232) (p : Option Addr) (cp : Nat) (H : List Hd) (w : World) (h : HdR w p H) (hS : HdS H) (hl : H.length ≤ 1000000) :
    Calls Tryz.prog 48 #[.slice p H.length cp, .string (str nm0)] w fun e w' => ∃ a c L, e = .returned (.slice a L.length c) ∧ Hid (L = vals (sm nm0) H) ∧ Hid (OwnN w' w.heap.size a c L) ∧ Hid (Below w.heap.size w w') := by
  have HH := hide h
  have HSM := hide (small_big nm0 w hnl)
  generalize sm nm0 = nm at *
  have HSS := hide hS
  clear h hS
  go_enter Tryz.func48, Tryz.ntmps48
  go_wp2_with (go_at_call 57; refine (unhide HSM).mono ?_; rintro e w1 ⟨rfl, hb1⟩)
  have HB1 := hide hb1
  clear hb1
  go_loopw [5, 12] (fun v i wr => ∃ k : Nat, k ≤ H.length ∧ i = .int .i64 (k : Int) ∧ ∃ a c L, v = .slice a L.length c ∧ Hid (L = valsTo nm H k) ∧ Hid (OwnN wr w.heap.size a c L) ∧ Hid (Below w.heap.size w wr)) (fun _ i _ => H.length - (intOf i).toNat)
  case atStart => exact ⟨0, Nat.zero_le _, rfl, none, 0, [], rfl, rfl, OwnN.nil _ _, HB1⟩
  case round =>
    clear HB1
    obtain ⟨k, hk, rfl, a, c, L, rfl, HL, HO, HB⟩ := hrel
    by_cases hlt : k < H.length
    · obtain ⟨d, hd⟩ : ∃ d, H[k]? = some d := ⟨_, List.getElem?_eq_getElem hlt⟩
      obtain ⟨b, off, hpe, hc⟩ := ((unhide HH).below (unhide HB) (Nat.le_refl _)).mem (by intro e; subst e; simp at hd)
      subst hpe
      obtain ⟨c0, c1⟩ := hc k d hd
      have hs := unhide HSS k d hd
      have HST := hide (vals_step nm H k d hd)
      have hlt' : (k : Int) < (H.length : Int) := by omega
      have hLl : L.length ≤ 1000000 := by rw [unhide HL]; have := vals_len nm H k; omega
      obtain ⟨wd, hwd⟩ : ∃ wd, wd = wr.alloc (.cells #[.string (str d.1), .string (str d.2)] 49) := ⟨_, rfl⟩
      have hbd : Below wr.heap.size wr wd := by rw [hwd]; exact (Below.refl _ _).alloc (Nat.le_refl _) _
      have hZ : wd.heap[wr.heap.size]? = some (.cells #[.string (str d.1), .string (str d.2)] 49 (0, 0)) := by rw [hwd]; exact heap_alloc_new wr _
      have z0 : wd.cell? ⟨wr.heap.size, 0, none⟩ = some (.string (str d.1)) := by rw [cell_of_row wd wr.heap.size 0 _ _ _ hZ]; rfl
      have HZ := hide hZ
      have HOd := hide ((unhide HO).below hbd (Nat.le_refl _))
      have HBd := hide ((unhide HB).trans (hbd.mono (unhide HB).size))
      have hwl : wr.heap.size < wd.heap.size := (Array.getElem?_eq_some_iff.1 hZ).1
      clear hc hd hbd hZ HO HB
      go_upto_region 6 with fail
      rw [← hwd]
      clear hwd c0 c1
      obtain ⟨q, hq⟩ : ∃ q, (sm d.1 == nm) = q := ⟨_, rfl⟩
      have hq2 : ((str (sm d.1)).toList == (str nm).toList) = q := by rw [str_beq, hq]
      have HQ := hide hq
      clear hq
      cases q with
      | false =>
        have HL2 : Hid (L = valsTo nm H (k + 1)) := by
          show _ = _
          rw [unhide HST, if_neg (by intro e; have := unhide HQ; rw [e] at this; simp at this)]
          exact unhide HL
        go_wp2_with (go_at_call 57; refine (small_any d.1 wd hs.1).mono ?_; rintro e w3 ⟨rfl, hb3⟩; have HB3 := hide hb3; clear hb3)
        have HO3 := hide ((unhide HOd).below (unhide HB3) (Nat.le_refl _))
        have HB4 := hide ((unhide HBd).trans ((unhide HB3).mono (unhide HBd).size))
        go_roundw
        case rel => exact ⟨k + 1, by omega, by go_num, a, c, L, rfl, HL2, HO3, HB4⟩
        case measure => simp [intOf]; omega
      | true =>
        have HL2 : Hid (valsTo nm H (k + 1) = L ++ [d.2]) := by
          show _ = _
          rw [unhide HST, if_pos (by simpa using unhide HQ), ← unhide HL]
        go_upto_region 7 with (go_at_call 57; refine (small_any d.1 wd hs.1).mono ?_; rintro e w3 ⟨rfl, hb3⟩; have HB3 := hide hb3; clear hb3)
        have HO3 := hide ((unhide HOd).below (unhide HB3) (Nat.le_refl _))
        have HB4 := hide ((unhide HBd).trans ((unhide HB3).mono (unhide HBd).size))
        have hZ3 := ((unhide HB3).block _ hwl).trans (unhide HZ)
        have z1 : w3.cell? ⟨wr.heap.size, 1, none⟩ = some (.string (str d.2)) := by rw [cell_of_row w3 wr.heap.size 1 _ _ _ hZ3]; rfl
        have hsz4 := (unhide HB4).size
        clear hZ3
        go_wp2_with (at_builtin; refine wp_appn _ rfl _ _ rfl w.heap.size a c L rfl ((unhide HO3).alloc _) w3.heap.size 1 d.2 rfl ?c1 (by omega) ?c2 ?_)
        case c1 => rw [cell_of_row _ w3.heap.size 0 _ _ _ (heap_alloc_new w3 _)]; rfl
        case c2 => simp; omega
        intro a5 c5 r5 w5 hr5 ho5 hg5
        have HR5 : Hid (r5 = valsTo nm H (k + 1)) := by show _ = _; rw [hr5.out, unhide HL2]
        have HB5 : Hid (Below w.heap.size w w5) := below_grown ((unhide HB4).alloc (unhide HB4).size _) hg5 (Nat.le_refl _) (fun j hj => ((unhide HO3).lt j hj).1)
        have HO5 := hide ho5
        clear hr5 hg5 ho5
        go_wp2
        go_roundw
        case rel => exact ⟨k + 1, by omega, by go_num, a5, c5, r5, rfl, HR5, HO5, HB5⟩
        case measure => simp [intOf]; omega
    · have hlt' : ¬ (k : Int) < (H.length : Int) := by omega
      have HLL : Hid (L = vals nm H) := by
        show _ = _
        rw [unhide HL]
        unfold valsTo
        rw [List.take_of_length_le (by omega)]
      clear hlt
      go_wp2
      go_ret
      exact ⟨a, c, L, rfl, HLL, HO, HB⟩
#print axioms values_of
#print axioms rsmall_big
end Go.Proofs.YtonaekkenggmbaaGreatDoor
end
section
set_option linter.unusedVariables false
set_option maxRecDepth 1000000
namespace Go.Proofs.YtonaekkenggmbaaGreatDoor
open Go.RowKit

/-- The first header of a name. -/
def fdF (nm : List UInt8) : List Hd → List UInt8 × Bool
  | [] => ([], false)
  | h :: H => if sm h.1 = nm then (h.2, true) else fdF nm H
theorem fdF_vals (nm : List UInt8) : ∀ H : List Hd, fdF nm H = (match vals nm H with | [] => ([], false) | x :: _ => (x, true))
  | [] => rfl
  | h :: H => by
    unfold fdF vals
    by_cases e : sm h.1 = nm
    · rw [if_pos e, List.filter_cons_of_pos (by simpa using e)]; rfl
    · rw [if_neg e, List.filter_cons_of_neg (by simpa using e), fdF_vals nm H]; rfl
set_option maxHeartbeats 2000000 in
theorem find_any (nm : List UInt8) (hnl : nm.length ≤ 140737488351232) (p : Option Addr) (cp : Nat) (H : List Hd) (w : World) (h : HdR w p H) (hS : HdS H) (hl : H.length ≤ 1000000) :
    Calls Tryz.prog 23 #[.slice p H.length cp, .string (str nm)] w fun e w' => e = .returned (.tuple #[.string (str (fdF (sm nm) H).1), .bool (fdF (sm nm) H).2]) ∧ Hid (Below w.heap.size w w') := by
  have HV := hide (values_of nm hnl p cp H w h hS hl)
  have HF := hide (fdF_vals (sm nm) H)
  generalize fdF (sm nm) H = X at *
  clear h hS
  go_enter Tryz.func23, Tryz.ntmps23
  go_wp2_with fail
  refine (unhide HV).mono ?_
  rintro e w' ⟨a, c, L, rfl, HL, HO, HB⟩
  rw [← unhide HL] at HF
  clear HV HL
  cases L with
  | nil =>
    have hX : X = ([], false) := unhide HF
    subst hX
    go_wp2
    refine bodyPost_ret (v := .tuple #[.string ⟨#[]⟩, .bool false]) (by simp [results, Tryz.results23, go_sem]) rfl ⟨rfl, HB⟩
  | cons x L =>
    have hX : X = (x, true) := unhide HF
    subst hX
    obtain ⟨g, hg, _, _, hc⟩ := (unhide HO).some (by simp)
    subst hg
    have hc0 : w'.cell? ⟨g, 0, none⟩ = some (.string (str x)) := hc 0 (by simp)
    have hne : (((L.length : Int) + 1) == 0) = false := by rw [beq_eq_false_iff_ne]; omega
    clear hc HF HO
    go_wp2
    refine bodyPost_ret (v := .tuple #[.string (str x), .bool true]) (by simp [results, Tryz.results23, go_sem]) rfl ⟨rfl, HB⟩
set_option maxHeartbeats 2000000 in
theorem rfind (nm : List UInt8) (hnl : nm.length ≤ 140737488351232) (p : Option Addr) (cp : Nat) (H : List Hd) (w : World) (h : HdR w p H) (hS : HdS H) (hl : H.length ≤ 1000000) :
    Calls Tryz.prog 24 #[.slice p H.length cp, .string (str nm)] w fun e w' => e = .returned (.tuple #[.string (str (fdF (sm nm) H).1), .bool (fdF (sm nm) H).2]) ∧ Hid (Below w.heap.size w w') := by
  have HH := hide h
  have HSS := hide hS
  have HSN : Hid (∀ w, Calls Tryz.prog 49 #[.string (str nm)] w fun e w' => e = .returned (.string (str (sm nm))) ∧ Hid (Below w.heap.size w w')) := fun w => rsmall_big nm w hnl
  obtain ⟨X, hX⟩ : ∃ X, X = fdF (sm nm) H := ⟨_, rfl⟩
  rw [← hX]
  have HX0 : Hid (X = fdF (sm nm) (H.drop 0)) := hX
  generalize sm nm = sn at *
  clear h hS hX
  go_enter Tryz.func24, Tryz.ntmps24
  go_wp2
  go_loopw [10] (fun i wr => ∃ k : Nat, k ≤ H.length ∧ i = .int .i64 (k : Int) ∧ Hid (X = fdF sn (H.drop k)) ∧ Hid (Below w.heap.size w wr)) (fun i _ => H.length - (intOf i).toNat)
  case atStart => exact ⟨0, Nat.zero_le _, rfl, HX0, Below.refl _ _⟩
  case round =>
    obtain ⟨k, hk, rfl, HX, HB⟩ := hrel
    by_cases hlt : k < H.length
    · obtain ⟨d, hd⟩ : ∃ d, H[k]? = some d := ⟨_, List.getElem?_eq_getElem hlt⟩
      obtain ⟨b, off, hpe, hc⟩ := ((unhide HH).below (unhide HB) (Nat.le_refl _)).mem (by intro e; subst e; simp at hd)
      subst hpe
      obtain ⟨c0, c1⟩ := hc k d hd
      have hs := unhide HSS k d hd
      have HSD : Hid (∀ w, Calls Tryz.prog 49 #[.string (str d.1)] w fun e w' => e = .returned (.string (str (sm d.1))) ∧ Hid (Below w.heap.size w w')) := fun w => rsmall_big d.1 w (by have := hs.1; omega)
      have HXX : Hid (X = if sm d.1 = sn then (d.2, true) else fdF sn (H.drop (k + 1))) := by
        show _ = _
        rw [unhide HX, List.drop_eq_getElem_cons hlt, show H[k] = d from (List.getElem?_eq_some_iff.1 hd).2, fdF]
      have hlt' : (k : Int) < (H.length : Int) := by omega
      obtain ⟨wd, hwd⟩ : ∃ wd, wd = wr.alloc (.cells #[.string (str d.1), .string (str d.2)] 49) := ⟨_, rfl⟩
      have hbd : Below wr.heap.size wr wd := by rw [hwd]; exact (Below.refl _ _).alloc (Nat.le_refl _) _
      have hZ : wd.heap[wr.heap.size]? = some (.cells #[.string (str d.1), .string (str d.2)] 49 (0, 0)) := by rw [hwd]; exact heap_alloc_new wr _
      have z0 : wd.cell? ⟨wr.heap.size, 0, none⟩ = some (.string (str d.1)) := cell_of_row _ _ _ _ _ _ hZ
      have z1 : wd.cell? ⟨wr.heap.size, 1, none⟩ = some (.string (str d.2)) := cell_of_row _ _ _ _ _ _ hZ
      have hwl : wr.heap.size < wd.heap.size := (Array.getElem?_eq_some_iff.1 hZ).1
      have HBd := hide ((unhide HB).trans (hbd.mono (unhide HB).size))
      clear hc hd hbd hZ HB HX
      obtain ⟨q, hq⟩ : ∃ q, (sm d.1 == sn) = q := ⟨_, rfl⟩
      have hq2 : ((str (sm d.1)).toList == (str sn).toList) = q := by rw [str_beq, hq]
      go_upto_region 5 with fail
      rw [← hwd]
      clear hwd c0 c1
      refine (unhide HSD _).mono ?_
      rintro e w3 ⟨rfl, HB3⟩
      go_wp2_with fail
      refine (unhide HSN _).mono ?_
      rintro e w4 ⟨rfl, HB4⟩
      have z1' : w4.cell? ⟨wr.heap.size, 1, none⟩ = some (.string (str d.2)) := by
        rw [(unhide HB4).cell (Nat.lt_of_lt_of_le hwl (unhide HB3).size), (unhide HB3).cell hwl]; exact z1
      have HB5 : Hid (Below w.heap.size w w4) := ((unhide HBd).trans ((unhide HB3).mono (unhide HBd).size)).trans ((unhide HB4).mono (Nat.le_trans (unhide HBd).size (unhide HB3).size))
      have HQ := hide hq
      clear z0 z1 HB3 HB4 HBd HSD hq
      cases q with
      | true =>
        have hX2 := unhide HXX
        rw [if_pos (by simpa using unhide HQ)] at hX2
        subst hX2
        clear HXX HQ
        go_wp2
        refine bodyPost_ret (v := .tuple #[.string (str d.2), .bool true]) (by simp [results, Tryz.results24, go_sem]) rfl ⟨rfl, HB5⟩
      | false =>
        have HX2 : Hid (X = fdF sn (H.drop (k + 1))) := by
          show _ = _
          rw [unhide HXX, if_neg (by intro e; have := unhide HQ; rw [e] at this; simp at this)]
        clear HXX HQ
        go_wp2
        go_roundw
        case rel => exact ⟨k + 1, by omega, by go_num, HX2, HB5⟩
        case measure => simp [intOf]; omega
    · obtain rfl : k = H.length := by omega
      have hX2 := unhide HX
      rw [List.drop_length] at hX2
      have hX3 : X = ([], false) := hX2
      subst hX3
      clear hlt hX2 HX
      go_wp2
      refine bodyPost_ret (v := .tuple #[.string ⟨#[]⟩, .bool false]) (by simp [results, Tryz.results24, go_sem]) rfl ⟨rfl, HB⟩
#print axioms find_any
#print axioms rfind
end Go.Proofs.YtonaekkenggmbaaGreatDoor
end
section
set_option linter.unusedVariables false
set_option maxRecDepth 1000000
namespace Go.Proofs.YtonaekkenggmbaaGreatDoor
open Go.RowKit

def wCon : List UInt8 := [99, 111, 110, 110, 101, 99, 116, 105, 111, 110]
def wClo : List UInt8 := [99, 108, 111, 115, 101]
def ccl : List UInt8 := [99, 111, 110, 110, 101, 99, 116, 105, 111, 110, 61, 99, 108, 111, 115, 101]
def isC (x : List UInt8) : Bool := sm x == wClo
/-- Is a connection closed? -/
def kcM (H : List Hd) : Bool := (vals wCon H).any isC
theorem ccl_at : ∀ k, k < 16 → ccl[k]? = some 61 → k = 10 := by decide +kernel
theorem ccl_eq (a b : List UInt8) : (a ++ [61] ++ b == ccl) = (a == wCon && b == wClo) := by
  rw [Bool.eq_iff_iff]
  simp only [Bool.and_eq_true, beq_iff_eq]
  constructor
  · intro h
    have h1 : ccl[a.length]? = some 61 := by
      rw [← h, List.append_assoc, List.getElem?_append_right (Nat.le_refl _)]
      simp
    have hl : a.length < 16 := (List.getElem?_eq_some_iff.1 h1).1
    have h10 := ccl_at _ hl h1
    have e1 := congrArg (List.take 10) h
    have e2 := congrArg (List.drop 11) h
    rw [List.append_assoc, ← h10, List.take_left'] at e1
    · rw [List.drop_left' (by simp [h10])] at e2
      rw [h10] at e1
      exact ⟨e1, e2⟩
    · rfl
  · rintro ⟨rfl, rfl⟩
    rfl
theorem kcM_any (H : List Hd) : kcM H = H.any (fun h => sm h.1 ++ [61] ++ sm h.2 == ccl) := by
  unfold kcM vals isC
  rw [List.any_map, List.any_filter]
  congr 1
  funext h
  rw [ccl_eq]
  simp only [Function.comp]
  congr 1
  rw [Bool.eq_iff_iff]
  simp
def NsK (w : World) (p : Option Addr) (L : List (List UInt8)) : Prop := ∀ i s, L[i]? = some s → ∃ b, p = some ⟨b, 0, none⟩ ∧ w.cell? ⟨b, i, none⟩ = some (.string (str s))
theorem NsK.below {w w' : World} {B : Nat} {p : Option Addr} {L : List (List UInt8)} (h : NsK w p L) (hb : Below B w w') (hB : w.heap.size ≤ B) : NsK w' p L := fun i s hs => by
  obtain ⟨b, h1, h2⟩ := h i s hs
  exact ⟨b, h1, by rw [hb.cell (Nat.lt_of_lt_of_le (World.block_lt_of_cell? w _ h2) hB)]; exact h2⟩
theorem OwnN.nsk {w : World} {base : Nat} {a : Option Addr} {cap : Nat} {l : List (List UInt8)} (h : OwnN w base a cap l) : NsK w a l := fun i s hs => by
  have hlt := (List.getElem?_eq_some_iff.1 hs).1
  obtain ⟨g, hg, _, _, hc⟩ := h.some (by omega)
  have := hc i hlt
  rw [show l.getD i [] = s by rw [List.getD_eq_getElem?_getD, hs]; rfl] at this
  exact ⟨g, hg, this⟩
set_option maxHeartbeats 1000000 in
theorem keeps1 (l : List UInt8) (w : World) (hl : l.length ≤ 1000000) :
    Calls Tryz.prog 56 #[.string (str l)] w fun e w' => e = .returned (.bool (isC l)) ∧ Hid (Below w.heap.size w w') := by
  have hq : ((str (sm l)).toList == [99, 108, 111, 115, 101]) = isC l := by rw [toList_str]; rfl
  go_enter Tryz.func56, Tryz.ntmps56
  go_wp2_with (go_at_call 57; refine (small_any l w hl).mono ?_; rintro e w2 ⟨rfl, hb2⟩)
  go_ret
  exact ⟨rfl, hb2⟩
set_option maxHeartbeats 4000000 in
theorem idx_k (p : Option Addr) (cp : Nat) (L : List (List UInt8)) (w : World) (h : NsK w p L) (hS : ∀ x ∈ L, x.length ≤ 1000000) (hl : L.length ≤ 1000001) :
    Calls Tryz.prog 81 #[.slice p L.length cp, .func (.func 56) #[] #[]] w fun e w' => ∃ r : Int, e = .returned (.int .i64 r) ∧ Hid (Below w.heap.size w w') ∧ Hid (decide (0 ≤ r) = L.any isC) := by
  have HS := hide h
  have HSL := hide hS
  clear h hS
  go_enter Tryz.func81, Tryz.ntmps81
  go_wp2
  go_loopw [8] (fun v wr => ∃ i : Nat, i ≤ L.length ∧ v = .int .i64 (i : Int) ∧ Hid (∀ j t, j < i → L[j]? = some t → isC t = false) ∧ Hid (Below w.heap.size w wr)) (fun v _ => L.length - (intOf v).toNat)
  case atStart => exact ⟨0, Nat.zero_le _, rfl, (fun j t hj => by omega), Below.refl _ _⟩
  case round =>
    obtain ⟨i, hi, rfl, hno, hb⟩ := hrel
    by_cases hlt : i < L.length
    · obtain ⟨s, hs⟩ : ∃ s, L[i]? = some s := ⟨_, List.getElem?_eq_getElem hlt⟩
      obtain ⟨b, hpe, c0⟩ := ((unhide HS).below (unhide hb) (Nat.le_refl _)) i s hs
      subst hpe
      have HSS := hide hs
      have hsl := unhide HSL s (List.mem_of_getElem? hs)
      have hi2 : (i : Int) < (L.length : Int) := by omega
      clear hs
      cases hk : isC s with
      | true =>
        have HK := hide hk
        clear hk
        go_wp2_with (go_at_call 56; refine (keeps1 s wr hsl).mono ?_; rintro e w2 ⟨rfl, hb2⟩; rw [HK.out])
        go_ret
        refine ⟨(i : Int), rfl, hb.out.trans (hb2.out.mono hb.out.size), ?_⟩
        show decide (0 ≤ (i : Int)) = _
        rw [decide_eq_true (by omega)]
        exact (List.any_eq_true.2 ⟨s, List.mem_of_getElem? (unhide HSS), unhide HK⟩).symm
      | false =>
        have HK := hide hk
        clear hk
        have HN2 : Hid (∀ j t, j < i + 1 → L[j]? = some t → isC t = false) := by
          intro j t hj ht
          by_cases e : j = i
          · subst e
            rw [unhide HSS] at ht
            cases ht
            exact unhide HK
          · exact unhide hno j t (by omega) ht
        go_wp2_with (go_at_call 56; refine (keeps1 s wr hsl).mono ?_; rintro e w2 ⟨rfl, hb2⟩; rw [HK.out])
        have HB2 := hide (hb.out.trans (hb2.out.mono hb.out.size))
        go_roundw
        case rel => exact ⟨i + 1, by omega, by go_num, HN2, HB2⟩
        case measure => simp [intOf]; omega
    · obtain rfl : i = L.length := by omega
      have hlt' : ¬ (L.length : Int) < (L.length : Int) := by omega
      have HA : Hid (L.any isC = false) := by
        show _ = _
        rw [List.any_eq_false]
        intro x hx
        obtain ⟨j, hj, e⟩ := List.mem_iff_getElem.1 hx
        have := unhide hno j x hj (by rw [List.getElem?_eq_getElem hj, e])
        rw [this]; decide
      clear hlt
      go_wp2
      go_ret
      refine ⟨-1, rfl, hb, ?_⟩
      show _ = _
      rw [unhide HA]; rfl
set_option maxHeartbeats 1000000 in
theorem con_k (p : Option Addr) (cp : Nat) (L : List (List UInt8)) (w : World) (h : NsK w p L) (hS : ∀ x ∈ L, x.length ≤ 1000000) (hl : L.length ≤ 1000001) :
    Calls Tryz.prog 55 #[.slice p L.length cp, .func (.func 56) #[] #[]] w fun e w' => e = .returned (.bool (L.any isC)) ∧ Hid (Below w.heap.size w w') := by
  have HX := hide (idx_k p cp L w h hS hl)
  clear h hS
  go_enter Tryz.func55, Tryz.ntmps55
  go_wp2_with (go_at_call 81; refine (unhide HX).mono ?_; rintro e w2 ⟨r, rfl, HB2, HR⟩)
  go_ret
  refine ⟨?_, HB2⟩
  rw [← HR.out]
  rfl
set_option maxHeartbeats 1000000 in
theorem keeps_any (m p : ByteArray) (hp : Option Addr) (hc : Nat) (bp : Option Addr) (bn bc : Nat) (H : List Hd) (w : World) (h : HdR w hp H) (hS : HdS H) (hl : H.length ≤ 1000000) :
    Calls Tryz.prog 30 #[.agg #[.string m, .string p, .slice hp H.length hc, .slice bp bn bc]] w fun e w' => e = .returned (.bool (!kcM H)) ∧ Hid (Below w.heap.size w w') := by
  have HH := hide h
  have HSS := hide hS
  have HMM : Hid (∀ x ∈ vals wCon H, x.length ≤ 1000000) := fun x hx => by
    obtain ⟨d, h1, rfl⟩ := List.mem_map.1 hx
    obtain ⟨k, hk⟩ := List.mem_iff_getElem?.1 (List.mem_filter.1 h1).1
    exact (hS k d hk).2
  have HLL : Hid ((vals wCon H).length ≤ 1000001) := by
    have := vals_len wCon H H.length
    unfold valsTo at this
    rw [List.take_length] at this
    exact Nat.le_trans this (by omega)
  have HKC : Hid (kcM H = (vals wCon H).any isC) := rfl
  clear h hS
  obtain ⟨V, hV⟩ : ∃ V, V = w.alloc (.cells #[.string m, .string p, .slice hp H.length hc, .slice bp bn bc] 39) := ⟨_, rfl⟩
  have hbV : Below w.heap.size w V := by rw [hV]; exact (Below.refl _ _).alloc (Nat.le_refl _) _
  have HV := hide (values_of wCon (by decide) hp hc H V ((unhide HH).below hbV (Nat.le_refl _)) (unhide HSS) hl)
  have HBV := hide hbV
  rw [show sm wCon = wCon by decide +kernel] at HV
  generalize vals wCon H = L at *
  generalize kcM H = K at *
  clear hbV
  go_enter Tryz.func30, Tryz.ntmps30
  go_upto_region 1 with fail
  rw [← hV]
  have q2 : V.cell? ⟨w.heap.size, 2, none⟩ = some (.slice hp H.length hc) := by rw [hV]; exact cell_of_row _ _ _ _ _ _ (heap_alloc_new w _)
  clear hV
  go_wp2_with fail
  refine (unhide HV).mono ?_
  rintro e w1 ⟨a, c, L', rfl, HL, HO, HB1⟩
  obtain rfl := unhide HL
  have HCK := hide (con_k a c L' w1 (unhide HO).nsk (unhide HMM) (unhide HLL))
  have HBW : Hid (Below w.heap.size w w1) := (unhide HBV).trans ((unhide HB1).mono (unhide HBV).size)
  clear HV HL HO HB1 HBV q2
  rw [← unhide HKC] at HCK
  go_wp2_with fail
  refine (unhide HCK).mono ?_
  rintro e w2 ⟨rfl, HB2⟩
  go_wp2_with fail
  go_ret
  exact ⟨rfl, hide ((unhide HBW).trans ((unhide HB2).mono (unhide HBW).size))⟩
#print axioms keeps_any
end Go.Proofs.YtonaekkenggmbaaGreatDoor
end
section
set_option linter.unusedVariables false
set_option maxRecDepth 1000000
namespace Go.Proofs.YtonaekkenggmbaaGreatDoor
open Go.RowKit

set_option maxHeartbeats 1000000 in
theorem rkeeps (m p : ByteArray) (hp : Option Addr) (hc : Nat) (bp : Option Addr) (bn bc : Nat) (H : List Hd) (w : World) (h : HdR w hp H) (hS : HdS H) (hl : H.length ≤ 1000000) :
    Calls Tryz.prog 31 #[.agg #[.string m, .string p, .slice hp H.length hc, .slice bp bn bc]] w fun e w' => e = .returned (.bool (!kcM H)) ∧ Hid (Below w.heap.size w w') := by
  have HSS := hide hS
  have HKC : Hid (kcM H = (H.drop 0).any (fun h => sm h.1 ++ [61] ++ sm h.2 == ccl)) := kcM_any H
  generalize kcM H = K at *
  obtain ⟨V, hV⟩ : ∃ V, V = w.alloc (.cells #[.string m, .string p, .slice hp H.length hc, .slice bp bn bc] 39) := ⟨_, rfl⟩
  have hbV : Below w.heap.size w V := by rw [hV]; exact (Below.refl _ _).alloc (Nat.le_refl _) _
  have HH : Hid (HdR V hp H) := h.below hbV (Nat.le_refl _)
  have HBV := hide hbV
  have q2 : V.cell? ⟨w.heap.size, 2, none⟩ = some (.slice hp H.length hc) := by rw [hV]; exact cell_of_row _ _ _ _ _ _ (heap_alloc_new w _)
  clear hbV h hS
  go_enter Tryz.func31, Tryz.ntmps31
  go_upto_region 1 with fail
  rw [← hV]
  clear hV
  go_wp2_with fail
  go_loopw [8] (fun i wr => ∃ k : Nat, k ≤ H.length ∧ i = .int .i64 (k : Int) ∧ Hid (K = (H.drop k).any (fun h => sm h.1 ++ [61] ++ sm h.2 == ccl)) ∧ Hid (Below V.heap.size V wr)) (fun i _ => H.length - (intOf i).toNat)
  case atStart => exact ⟨0, Nat.zero_le _, rfl, HKC, Below.refl _ _⟩
  case round =>
    obtain ⟨k, hk, rfl, HX, HB⟩ := hrel
    by_cases hlt : k < H.length
    · obtain ⟨d, hd⟩ : ∃ d, H[k]? = some d := ⟨_, List.getElem?_eq_getElem hlt⟩
      obtain ⟨b, off, hpe, hcc⟩ := ((unhide HH).below (unhide HB) (Nat.le_refl _)).mem (by intro e; subst e; simp at hd)
      subst hpe
      obtain ⟨c0, c1⟩ := hcc k d hd
      have hs := unhide HSS k d hd
      have HSM : Hid (∀ (l : List UInt8) (w : World), l.length ≤ 140737488351232 → Calls Tryz.prog 49 #[.string (str l)] w fun e w' => e = .returned (.string (str (sm l))) ∧ Hid (Below w.heap.size w w')) := fun l w h => rsmall_big l w h
      have hn1 : d.1.length ≤ 140737488351232 := by have := hs.1; omega
      have hn2 : d.2.length ≤ 140737488351232 := by have := hs.2; omega
      have HXX : Hid (K = ((sm d.1 ++ [61] ++ sm d.2 == ccl) || (H.drop (k + 1)).any (fun h => sm h.1 ++ [61] ++ sm h.2 == ccl))) := by
        show _ = _
        rw [unhide HX, List.drop_eq_getElem_cons hlt, show H[k] = d from (List.getElem?_eq_some_iff.1 hd).2, List.any_cons]
      have hlt' : (k : Int) < (H.length : Int) := by omega
      obtain ⟨wd, hwd⟩ : ∃ wd, wd = wr.alloc (.cells #[.string (str d.1), .string (str d.2)] 49) := ⟨_, rfl⟩
      have hbd : Below wr.heap.size wr wd := by rw [hwd]; exact (Below.refl _ _).alloc (Nat.le_refl _) _
      have hZ : wd.heap[wr.heap.size]? = some (.cells #[.string (str d.1), .string (str d.2)] 49 (0, 0)) := by rw [hwd]; exact heap_alloc_new wr _
      have z0 : wd.cell? ⟨wr.heap.size, 0, none⟩ = some (.string (str d.1)) := cell_of_row _ _ _ _ _ _ hZ
      have z1 : wd.cell? ⟨wr.heap.size, 1, none⟩ = some (.string (str d.2)) := cell_of_row _ _ _ _ _ _ hZ
      have hwl : wr.heap.size < wd.heap.size := (Array.getElem?_eq_some_iff.1 hZ).1
      have HBd := hide ((unhide HB).trans (hbd.mono (unhide HB).size))
      have zs1 : (str (sm d.1)).size = d.1.length := by rw [str_size, sm_length]
      have zs2 : (str (sm d.2)).size = d.2.length := by rw [str_size, sm_length]
      have zl : (⟨#[61]⟩ : ByteArray).size = 1 := rfl
      have hs1 := hs.1
      have hs2 := hs.2
      have cat1 : str (sm d.1) ++ (⟨#[61]⟩ : ByteArray) = str (sm d.1 ++ [61]) := str_app (sm d.1) [61]
      have zs3 : (str (sm d.1 ++ [61])).size = d.1.length + 1 := by rw [str_size]; simp [sm_length]
      have cat2 : str (sm d.1 ++ [61]) ++ str (sm d.2) = str (sm d.1 ++ [61] ++ sm d.2) := str_app (sm d.1 ++ [61]) (sm d.2)
      obtain ⟨q, hq⟩ : ∃ q, (sm d.1 ++ [61] ++ sm d.2 == ccl) = q := ⟨_, rfl⟩
      have hq2 : ((str (sm d.1 ++ [61] ++ sm d.2)).toList == [99, 111, 110, 110, 101, 99, 116, 105, 111, 110, 61, 99, 108, 111, 115, 101]) = q := by rw [toList_str]; exact hq
      rw [hq] at HXX
      clear hcc hd hbd hZ HB HX hq hs
      generalize d.1 = n at *
      generalize d.2 = v at *
      generalize sm n ++ [61] ++ sm v = t2 at *
      generalize sm n ++ [61] = t1 at *
      have ka : ∀ w, (Op.stringOp .add (str (sm n)) (⟨#[61]⟩ : ByteArray)).run Tryz.prog w = .ok (.string (str t1)) w := fun w => by
        rw [← cat1]; exact run_string_add_sum w _ _ (by rw [zs1, zl]; omega)
      have kb : ∀ w, (Op.stringOp .add (str t1) (str (sm v))).run Tryz.prog w = .ok (.string (str t2)) w := fun w => by
        rw [← cat2]; exact run_string_add_sum w _ _ (by rw [zs3, zs2]; omega)
      clear cat1 cat2 zs1 zs2 zs3 zl
      go_upto_region 4 with fail
      rw [← hwd]
      clear hwd c0 c1
      go_region_law (first
        | (have hh := HB3; clear hh; go_simp; go_at_call 49; refine (unhide HSM _ _ (by assumption)).mono ?_; rintro e w4 ⟨rfl, HB4⟩)
        | (go_simp; go_at_call 49; refine (unhide HSM _ _ (by assumption)).mono ?_; rintro e w3 ⟨rfl, HB3⟩; have s30 : w3.cell? ⟨wr.heap.size, 0, none⟩ = some (.string (str n)) := ((unhide HB3).cell hwl).trans z0; have s31 : w3.cell? ⟨wr.heap.size, 1, none⟩ = some (.string (str v)) := ((unhide HB3).cell hwl).trans z1))
      all_goals
        have hbd1 : Below V.heap.size V wd.drew := below_drewN (unhide HBd) 1
        have HB5 : Hid (Below V.heap.size V w4) := (hbd1.trans ((unhide HB3).mono hbd1.size)).trans ((unhide HB4).mono (Nat.le_trans hbd1.size (unhide HB3).size))
        clear hbd1
        clear z0 z1 s30 s31 HB3 HB4 HBd HSM
        cases q with
        | true =>
          obtain rfl : K = true := unhide HXX
          have HB6 : Hid (Below w.heap.size w w4) := (unhide HBV).trans ((unhide HB5).mono (unhide HBV).size)
          go_wp2
          go_ret
          exact ⟨rfl, HB6⟩
        | false =>
          have HX2 : Hid (K = (H.drop (k + 1)).any (fun h => sm h.1 ++ [61] ++ sm h.2 == ccl)) := by
            show _ = _
            rw [unhide HXX, Bool.false_or]
          clear HXX
          go_wp2
          go_roundw
          case rel => exact ⟨k + 1, by omega, by go_num, HX2, HB5⟩
          case measure => simp [intOf]; omega
    · obtain rfl : k = H.length := by omega
      have hX2 := unhide HX
      rw [List.drop_length] at hX2
      obtain rfl : K = false := hX2
      have HB6 : Hid (Below w.heap.size w wr) := (unhide HBV).trans ((unhide HB).mono (unhide HBV).size)
      clear hlt HX
      go_wp2
      go_ret
      exact ⟨rfl, HB6⟩
#print axioms rkeeps
end Go.Proofs.YtonaekkenggmbaaGreatDoor
end
