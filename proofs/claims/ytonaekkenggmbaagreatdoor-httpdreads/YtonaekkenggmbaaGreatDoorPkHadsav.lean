/-
  httpd's reference: a head's lines; a name's values; a number; a hexadecimal figure.; httpd's reference: a number, a hexadecimal figure, a line's end.; httpd: Reason, the program's and the reference's.; httpd's reader over chunks, place by place (mathematics).; httpd's reference: a first line.; httpd's reference: the lines behind the first one.
-/
import Derived.Test.YtonaekkenggmbaaGreatDoorPkHadsar
import Derived.Lib.CountLaws
import Derived.Deep.QuietTactic
import Derived.BigQuiet
import Derived.Test.YtonaekkenggmbaaGreatDoorPkHadsap
import Derived.Deep.RegionHeld3
section
set_option linter.unusedVariables false
set_option maxRecDepth 1000000
namespace Go.Proofs.YtonaekkenggmbaaGreatDoor
open Go.RowKit

theorem spl_miss (s sep : List UInt8) (h : Lib.index s sep = -1) : Lib.split s sep = [s] := by
  unfold Lib.split
  rw [Lib.count_miss h]
  rfl
theorem spl_hit (s sep : List UInt8) (i : Nat) (hne : sep ≠ []) (h : Lib.index s sep = (i : Int)) : Lib.split s sep = s.take i :: Lib.split (s.drop (i + sep.length)) sep := by
  unfold Lib.split
  rw [Lib.count_hit hne h, Nat.add_comm]
  simp only [Lib.splitK, h]
  rw [if_neg (by simp)]
  simp
set_option maxHeartbeats 2000000 in
theorem cut8 (s : List UInt8) (w : World) (hs : s.length ≤ 1000000) :
    Calls Tryz.prog 68 #[.string (str s)] w fun e w' => ∃ a c L, e = .returned (.slice a L.length c) ∧ Hid (L = Lib.split s [13, 10]) ∧ Hid (OwnN w' w.heap.size a c L) ∧ Hid (Below w.heap.size w w') := by
  obtain ⟨R, hR⟩ : ∃ R, R = Lib.split s [13, 10] := ⟨_, rfl⟩
  rw [← hR]
  have HR0 : Hid (R = [] ++ Lib.split s [13, 10]) := hR
  clear hR
  go_enter Tryz.func68, Tryz.ntmps68
  go_wp2
  go_loopw [0, 3] (fun v0 v3 wr => ∃ (r : List UInt8) (a : Option Addr) (c : Nat) (L : List (List UInt8)), v0 = .string (str r) ∧ v3 = .slice a L.length c ∧ r.length + L.length ≤ 1000000 ∧ Hid (R = L ++ Lib.split r [13, 10]) ∧ Hid (OwnN wr w.heap.size a c L) ∧ Hid (Below w.heap.size w wr)) (fun v0 _ _ => match v0 with | .string b => b.size | _ => 0)
  case atStart => exact ⟨s, none, 0, [], rfl, rfl, by simpa using hs, HR0, OwnN.nil _ _, Below.refl _ _⟩
  case round =>
    clear HR0
    obtain ⟨r, a, c, L, rfl, rfl, hrl, HL, HO, HB⟩ := hrel
    have z1 : (str r).size = r.length := str_size r
    have HW : Hid (Calls Tryz.prog 53 #[.string ⟨#[13, 10]⟩, .string (str r)] wr fun e w' => e = .returned (.int .i64 (whM [13, 10] r : Int)) ∧ w' = wr) := where_any [13, 10] r wr (by omega) (by decide) (by decide)
    obtain ⟨n, hn⟩ : ∃ n, n = whM [13, 10] r := ⟨_, rfl⟩
    rw [← hn] at HW
    have hnl : n ≤ r.length := by rw [hn]; exact whM_le _ _
    have e1 : (str r).extract 0 n = str (r.take n) := cut_to r n
    have hcs : (n = r.length ∧ Lib.split r [13, 10] = [r]) ∨ (n + 2 ≤ r.length ∧ Lib.split r [13, 10] = r.take n :: Lib.split (r.drop (n + 2)) [13, 10]) := by
      rcases Lib.index_spec r [13, 10] with ⟨e, _⟩ | ⟨i, e, hi, ho, hno⟩
      · left
        refine ⟨by rw [hn]; unfold whM; rw [e, if_neg (by omega)], spl_miss _ _ e⟩
      · right
        have hni : n = i := by rw [hn]; unfold whM; rw [e, if_pos (by omega)]; simp
        have hro := Lib.index_room r [13, 10] (by rw [e]; omega)
        rw [e] at hro
        simp at hro
        refine ⟨by omega, ?_⟩
        rw [hni]
        exact spl_hit r [13, 10] i (by decide) e
    have HCS := hide hcs
    clear hn hcs
    have hLl : L.length ≤ 1000000 := by omega
    rcases unhide HCS with ⟨h1, h2⟩ | ⟨h1, h2⟩
    · have e2 : ((n : Int) == (r.length : Int)) = true := by rw [beq_iff_eq]; omega
      have HS := hide h2
      have H1 := hide h1
      clear h1 h2 HCS
      go_wp2_with fail
      refine (unhide HW).mono ?_
      rintro e wr ⟨rfl, rfl⟩
      clear HW
      go_wp2_with (at_builtin; refine wp_appn _ rfl _ _ rfl w.heap.size a c L rfl ((unhide HO).alloc _) wr.heap.size 1 (r.take n) rfl (by rw [cell_of_row _ _ _ _ _ _ (heap_alloc_new wr _)]; rfl) (by omega) (by have := (unhide HB).size; simp; omega) ?_)
      intro a' cap' r' w' hr' ho' hg'
      have HB2 : Hid (Below w.heap.size w w') := below_grown (a := a) ((unhide HB).alloc (unhide HB).size _) hg' (Nat.le_refl _) (fun k hk => ((unhide HO).lt k hk).1)
      have HR2 : Hid (r' = R) := by
        show _ = _
        rw [unhide hr', unhide HL, unhide HS, unhide H1, List.take_length]
      have HO2 := hide ho'
      clear hr' ho' hg' HO HB HL
      go_wp2
      go_ret
      exact ⟨a', cap', r', rfl, HR2, HO2, HB2⟩
    · have e2 : ((n : Int) == (r.length : Int)) = false := by rw [beq_eq_false_iff_ne]; omega
      have e3 : (str r).extract (n + 2) r.length = str (r.drop (n + 2)) := cut_from r (n + 2)
      have HS := hide h2
      clear h2 HCS
      go_wp2_with fail
      refine (unhide HW).mono ?_
      rintro e wr ⟨rfl, rfl⟩
      clear HW
      go_wp2_with (at_builtin; refine wp_appn _ rfl _ _ rfl w.heap.size a c L rfl ((unhide HO).alloc _) wr.heap.size 1 (r.take n) rfl (by rw [cell_of_row _ _ _ _ _ _ (heap_alloc_new wr _)]; rfl) (by omega) (by have := (unhide HB).size; simp; omega) ?_)
      intro a' cap' r' w' hr' ho' hg'
      have HB2 : Hid (Below w.heap.size w w') := below_grown (a := a) ((unhide HB).alloc (unhide HB).size _) hg' (Nat.le_refl _) (fun k hk => ((unhide HO).lt k hk).1)
      have HR2 : Hid (R = r' ++ Lib.split (r.drop (n + 2)) [13, 10]) := by
        show _ = _
        rw [unhide hr', unhide HL, unhide HS, List.append_assoc]
        rfl
      have hll : (r.drop (n + 2)).length + r'.length ≤ 1000000 := by rw [unhide hr']; simp; omega
      have HO2 := hide ho'
      clear hr' ho' hg' HO HB HL
      go_wp2
      go_roundw
      case rel => exact ⟨r.drop (n + 2), a', cap', r', by rw [e3], rfl, hll, HR2, HO2, HB2⟩
      case measure =>
        show ((str r).extract (n + 2) r.length).size < (str r).size
        rw [e3, str_size, str_size]; simp; omega
/-- A name's values, the name as it is. -/
def valE (nm : List UInt8) (H : List Hd) : List (List UInt8) := (H.filter (fun h => h.1 == nm)).map (·.2)
theorem valE_snoc (nm : List UInt8) (H : List Hd) (k : Nat) (d : Hd) (hd : H[k]? = some d) : valE nm (H.take (k + 1)) = if (d.1 == nm) = true then valE nm (H.take k) ++ [d.2] else valE nm (H.take k) := by
  unfold valE
  rw [List.take_add_one, hd, Option.toList_some, List.filter_append, List.map_append]
  by_cases h : (d.1 == nm) = true
  · simp [h]
  · simp [h]
theorem valE_len (nm : List UInt8) (H : List Hd) : (valE nm H).length ≤ H.length := by
  unfold valE
  rw [List.length_map]
  exact List.length_filter_le _ _
set_option maxHeartbeats 2000000 in
theorem values8 (nm : List UInt8) (p : Option Addr) (cp : Nat) (H : List Hd) (w : World) (h : HdR w p H) (hl : H.length ≤ 1000000) :
    Calls Tryz.prog 100 #[.slice p H.length cp, .string (str nm)] w fun e w' => ∃ a c L, e = .returned (.slice a L.length c) ∧ Hid (L = valE nm H) ∧ Hid (OwnN w' w.heap.size a c L) ∧ Hid (Below w.heap.size w w') := by
  have HH := hide h
  clear h
  go_enter Tryz.func100, Tryz.ntmps100
  go_wp2
  go_loopw [5, 10] (fun v i wr => ∃ k : Nat, k ≤ H.length ∧ i = .int .i64 (k : Int) ∧ ∃ a c L, v = .slice a L.length c ∧ Hid (L = valE nm (H.take k)) ∧ Hid (OwnN wr w.heap.size a c L) ∧ Hid (Below w.heap.size w wr)) (fun _ i _ => H.length - (intOf i).toNat)
  case atStart => exact ⟨0, Nat.zero_le _, rfl, none, 0, [], rfl, rfl, OwnN.nil _ _, Below.refl _ _⟩
  case round =>
    obtain ⟨k, hk, rfl, a, c, L, rfl, HL, HO, HB⟩ := hrel
    by_cases hlt : k < H.length
    · obtain ⟨d, hd⟩ : ∃ d, H[k]? = some d := ⟨_, List.getElem?_eq_getElem hlt⟩
      obtain ⟨b, off, hpe, hc⟩ := ((unhide HH).below (unhide HB) (Nat.le_refl _)).mem (by intro e; subst e; simp at hd)
      subst hpe
      obtain ⟨c0, c1⟩ := hc k d hd
      have HST := hide (valE_snoc nm H k d hd)
      have hlt' : (k : Int) < (H.length : Int) := by omega
      have hLl : L.length ≤ 1000000 := by rw [unhide HL]; have := valE_len nm (H.take k); simp at this; omega
      obtain ⟨wd, hwd⟩ : ∃ wd, wd = wr.alloc (.cells #[.string (str d.1), .string (str d.2)] 49) := ⟨_, rfl⟩
      have hbd : Below wr.heap.size wr wd := by rw [hwd]; exact (Below.refl _ _).alloc (Nat.le_refl _) _
      have hZ : wd.heap[wr.heap.size]? = some (.cells #[.string (str d.1), .string (str d.2)] 49 (0, 0)) := by rw [hwd]; exact heap_alloc_new wr _
      have z0 : wd.cell? ⟨wr.heap.size, 0, none⟩ = some (.string (str d.1)) := cell_of_row _ _ _ _ _ _ hZ
      have z1 : wd.cell? ⟨wr.heap.size, 1, none⟩ = some (.string (str d.2)) := cell_of_row _ _ _ _ _ _ hZ
      have HOd := hide ((unhide HO).below hbd (Nat.le_refl _))
      have HBd := hide ((unhide HB).trans (hbd.mono (unhide HB).size))
      clear hc hd hbd hZ HO HB
      obtain ⟨q, hq⟩ : ∃ q, (d.1 == nm) = q := ⟨_, rfl⟩
      have hq2 : ((str d.1).toList == (str nm).toList) = q := by rw [str_beq, hq]
      rw [hq] at HST
      clear hq
      go_upto_region 5 with fail
      rw [← hwd]
      clear hwd c0 c1
      cases q with
      | false =>
        have HL2 : Hid (L = valE nm (H.take (k + 1))) := by
          show _ = _
          rw [unhide HST, if_neg (by decide)]
          exact unhide HL
        go_wp2
        go_roundw
        case rel => exact ⟨k + 1, by omega, by go_num, a, c, L, rfl, HL2, HOd, HBd⟩
        case measure => simp [intOf]; omega
      | true =>
        go_wp2_with (at_builtin; refine wp_appn _ rfl _ _ rfl w.heap.size a c L rfl ((unhide HOd).alloc _) wd.heap.size 1 d.2 rfl (by rw [cell_of_row _ _ _ _ _ _ (heap_alloc_new wd _)]; rfl) (by omega) (by have := (unhide HBd).size; simp; omega) ?_)
        intro a' cap' r' w' hr' ho' hg'
        have HB2 : Hid (Below w.heap.size w w') := below_grown (a := a) ((unhide HBd).alloc (unhide HBd).size _) hg' (Nat.le_refl _) (fun k hk => ((unhide HOd).lt k hk).1)
        have HL2 : Hid (r' = valE nm (H.take (k + 1))) := by
          show _ = _
          rw [unhide HST, if_pos trivial, unhide hr', unhide HL]
        have HO2 := hide ho'
        clear hr' ho' hg' HOd HBd HL
        go_wp2
        go_roundw
        case rel => exact ⟨k + 1, by omega, by go_num, a', cap', r', rfl, HL2, HO2, HB2⟩
        case measure => simp [intOf]; omega
    · obtain rfl : k = H.length := by omega
      rw [List.take_length] at HL
      clear hlt
      go_wp2
      go_ret
      exact ⟨a, c, L, rfl, HL, HO, HB⟩
#print axioms values8
end Go.Proofs.YtonaekkenggmbaaGreatDoor
end
section
set_option linter.unusedVariables false
set_option maxRecDepth 1000000
namespace Go.Proofs.YtonaekkenggmbaaGreatDoor
open Go.RowKit

def nuM (s : List UInt8) : Int := match rlM s with | some n => (n : Int) | none => -1
theorem is1_dig : isM 1 = digB := by
  funext c
  simp [isM, btw, digB]
theorem rl_dec (s : List UInt8) (ha : s.all digB = true) (hne : s ≠ []) (h9 : s.length ≤ 9) (n : Nat) (hd : Lib.decFrom 0 s = some n) : rlM s = some n := by
  match s, hne with
  | c :: r, _ =>
    have hc : digB c = true := by simp only [List.all_cons, Bool.and_eq_true] at ha; exact ha.1
    have h45 : (c == 45) = false := by
      rw [beq_eq_false_iff_ne]; rintro rfl; simp [digB] at hc
    have h43 : (c == 43) = false := by
      rw [beq_eq_false_iff_ne]; rintro rfl; simp [digB] at hc
    have hn : Lib.decNat (c :: r) = some n := hd
    unfold rlM
    rw [if_pos (by simp only [ha]; simp; simpa using h9)]
    simp only [Lib.atoi, h45, h43, hn]
    rfl
set_option maxHeartbeats 1000000 in
theorem number8 (s : List UInt8) (w : World) (hs : s.length ≤ 1000000) :
    Calls Tryz.prog 54 #[.string (str s)] w fun e w' => e = .returned (.int .i64 (nuM s)) ∧ Hid (Below w.heap.size w w') := by
  have z1 : (str s).size = s.length := str_size s
  have HA : Hid (Calls Tryz.prog 80 #[.string (str s), .int .i64 1, .int .i64 9, .int .i64 1] w fun e w' => e = .returned (.bool (alM s 1 9 1)) ∧ Hid (Below w.heap.size w w')) := all8_any s 1 9 1 (by decide) w hs (by decide) (by decide)
  obtain ⟨R, hR⟩ : ∃ R, R = nuM s := ⟨_, rfl⟩
  rw [← hR]
  have HR := hide hR
  clear hR
  cases hq : alM s 1 9 1 with
  | false =>
    have HF : Hid (R = -1) := by
      show _ = _
      rw [unhide HR]
      unfold nuM
      have : rlM s = none := by
        unfold rlM
        rw [if_neg]
        intro h
        simp only [Bool.and_eq_true, decide_eq_true_eq] at h
        have : alM s 1 9 1 = true := by
          unfold alM
          rw [is1_dig, h.2.1]
          have : s ≠ [] := by intro e; rw [e] at h; simp at h
          have := List.length_pos_iff.2 this
          simp; omega
        rw [this] at hq
        cases hq
      rw [this]
    rw [hq] at HA
    clear hq
    go_enter Tryz.func54, Tryz.ntmps54
    go_wp2_with fail
    refine (unhide HA).mono ?_
    rintro e w1 ⟨rfl, HB1⟩
    go_wp2
    go_ret
    exact ⟨by rw [unhide HF]; rfl, HB1⟩
  | true =>
    have hal : s.all digB = true ∧ 1 ≤ s.length ∧ s.length ≤ 9 := by
      unfold alM at hq
      rw [is1_dig] at hq
      simpa using hq
    obtain ⟨had, hl1, hl9⟩ := hal
    have HAD := hide had
    rw [hq] at HA
    clear hq had
    go_enter Tryz.func54, Tryz.ntmps54
    go_wp2_with fail
    refine (unhide HA).mono ?_
    rintro e w1 ⟨rfl, HB1⟩
    clear HA
    go_wp2
    go_loopw [3, 10] (fun v i wr => ∃ (k n : Nat), k ≤ s.length ∧ n < 1000000000 ∧ v = .int .i64 (n : Int) ∧ i = .int .i64 (k : Int) ∧ Hid (Lib.decFrom 0 (s.take k) = some n) ∧ wr = w1) (fun _ i _ => s.length - (intOf i).toNat)
    case atStart => exact ⟨0, 0, Nat.zero_le _, by decide, rfl, rfl, rfl, rfl⟩
    case round =>
      obtain ⟨k, n, hk, hn, rfl, rfl, HD, rfl⟩ := hrel
      by_cases hlt : k < s.length
      · have hlt' : (k : Int) < (s.length : Int) := by omega
        obtain ⟨c, hc⟩ : ∃ c, s.getD k 0 = c := ⟨_, rfl⟩
        have hix : ∀ w, (Instr.index 9 (.string (str s)) (.int .i64 (k : Int))).run Tryz.prog w = .ok (.int .u8 (c.toNat : Int)) w := fun w => by rw [← hc]; exact run_ixs w s k hlt
        have hlk : s[k]? = some c := by rw [List.getElem?_eq_getElem hlt, ← hc, List.getD_eq_getElem?_getD, List.getElem?_eq_getElem hlt]; rfl
        have hdg : digB c = true := List.all_eq_true.1 (unhide HAD) c (List.mem_of_getElem? hlk)
        have hb : 48 ≤ c.toNat ∧ c.toNat ≤ 57 := by simpa [digB] using hdg
        have HD2 : Hid (Lib.decFrom 0 (s.take (k + 1)) = some (n * 10 + (c.toNat - 48))) := Lib.decFrom_take s k 0 n c _ (unhide HD) hlk (dig_val c hdg)
        have hn2 : n * 10 + (c.toNat - 48) < 1000000000 := by
          have h1 := Lib.decFrom_lt _ 0 _ (unhide HD2)
          have h2 : (s.take (k + 1)).length ≤ 9 := by rw [List.length_take]; omega
          have h3 := Nat.pow_le_pow_right (n := 10) (by decide) h2
          omega
        obtain ⟨hb1, hb2⟩ := hb
        clear hc hlk hdg
        go_wp2
        go_roundw
        case rel => exact ⟨k + 1, n * 10 + (c.toNat - 48), by omega, hn2, by congr 1; omega, by go_num, HD2, trivial⟩
        case measure => simp [intOf]; omega
      · obtain rfl : k = s.length := by omega
        rw [List.take_length] at HD
        have HF : Hid (R = (n : Int)) := by
          show _ = _
          rw [unhide HR]
          unfold nuM
          rw [rl_dec s (unhide HAD) (by intro e; rw [e] at hl1; simp at hl1) hl9 n (unhide HD)]
        clear hlt
        go_wp2
        go_ret
        exact ⟨by rw [unhide HF]; rfl, HB1⟩
def hexD : List UInt8 := [48, 49, 50, 51, 52, 53, 54, 55, 56, 57, 97, 98, 99, 100, 101, 102]
def hxM (c : UInt8) : Nat := match hexB c with | some x => x | none => 16
def hx256 (c : UInt8) : Bool := decide (whM [lowB c] hexD = hxM c)
set_option maxRecDepth 100000 in
theorem hx_all (c : UInt8) : whM [lowB c] hexD = hxM c := by
  have h : hx256 c = true := by
    have : ∀ n, n < 256 → hx256 (UInt8.ofNat n) = true := by decide +kernel
    have h2 := this c.toNat (UInt8.toNat_lt c)
    rwa [UInt8.ofNat_toNat] at h2
  simpa [hx256] using h
theorem hxM_le (c : UInt8) : hxM c ≤ 16 := by
  unfold hxM
  split
  · rename_i x h
    have := hexB_lt c x h
    omega
  · omega
set_option maxHeartbeats 1000000 in
theorem hex8 (c : UInt8) (w : World) : Calls Tryz.prog 123 #[.int .u8 (c.toNat : Int)] w fun e w' => e = .returned (.int .i64 (hxM c : Int)) ∧ Hid (Below w.heap.size w w') := by
  obtain ⟨V, hV⟩ : ∃ V, V = w.alloc (.cells #[.int .u8 (c.toNat : Int)] 5) := ⟨_, rfl⟩
  have HBV : Hid (Below w.heap.size w V) := by rw [hV]; exact (Below.refl _ _).alloc (Nat.le_refl _) _
  have hbs : Bs V (some ⟨w.heap.size, 0, none⟩) 1 [c] := by rw [hV]; exact bsc w _ [c] rfl (0, 0) (by simp)
  have kc : (convert 28 9 (.slice (some ⟨w.heap.size, 0, none⟩) 1 1)).run Tryz.prog V = .ok (.string (str [c])) V := run_str _ _ _ _ _ hbs.row rfl
  have HS := hide (rsmall8 [c] V (by simp))
  have HX := hide (hx_all c)
  generalize hxM c = R at *
  rw [hV] at kc HS HBV
  clear hbs hV
  go_enter Tryz.func123, Tryz.ntmps123
  go_wp2_with fail
  refine (unhide HS).mono ?_
  rintro e w1 ⟨rfl, HB1⟩
  clear HS
  have HW : Hid (Calls Tryz.prog 53 #[.string (str (sm [c])), .string ⟨#[48, 49, 50, 51, 52, 53, 54, 55, 56, 57, 97, 98, 99, 100, 101, 102]⟩] w1 fun e w' => e = .returned (.int .i64 (R : Int)) ∧ w' = w1) := by
    have := where_any [lowB c] hexD w1 (by decide) (by simp) (by simp)
    rw [unhide HX] at this
    exact this
  go_wp2_with fail
  refine (unhide HW).mono ?_
  rintro e w1 ⟨rfl, rfl⟩
  go_wp2
  go_ret
  exact ⟨rfl, hide ((unhide HBV).trans ((unhide HB1).mono (unhide HBV).size))⟩
/-- Does CR LF stand at a place? -/
def enM (s : List UInt8) (a : Nat) : Nat :=
  if s.length ≤ a then 1 else if s.getD a 0 ≠ 13 then 400 else if s.length ≤ a + 1 then 1 else if s.getD (a + 1) 0 ≠ 10 then 400 else 0
set_option maxHeartbeats 2000000 in
theorem ends8 (s : List UInt8) (a : Nat) (w : World) (hs : s.length ≤ 140737488353280) (ha : a ≤ 140737488353280) :
    Calls Tryz.prog 124 #[.string (str s), .int .i64 (a : Int)] w fun e w' => e = .returned (.tuple #[.int .i64 0, .int .i64 (enM s a : Int)]) ∧ Hid (Below w.heap.size w w') := by
  have z1 : (str s).size = s.length := str_size s
  obtain ⟨R, hR⟩ : ∃ R, R = enM s a := ⟨_, rfl⟩
  rw [← hR]
  have HR := hide hR
  clear hR
  have HCR : Hid (∀ w, (Instr.index 9 (.string ⟨#[13, 10]⟩) (.int .i64 0)).run Tryz.prog w = .ok (.int .u8 13) w) := fun w => run_ixs w [13, 10] 0 (by decide)
  have HLF : Hid (∀ w, (Instr.index 9 (.string ⟨#[13, 10]⟩) (.int .i64 1)).run Tryz.prog w = .ok (.int .u8 10) w) := fun w => run_ixs w [13, 10] 1 (by decide)
  go_enter Tryz.func124, Tryz.ntmps124
  go_wp2
  go_loopw [7] (fun i wr => ∃ k : Nat, k ≤ 2 ∧ i = .int .i64 (k : Int) ∧ Hid ((k = 0 ∨ (a < s.length ∧ s.getD a 0 = 13)) ∧ (k = 2 → a + 1 < s.length ∧ s.getD (a + 1) 0 = 10)) ∧ Hid (Below w.heap.size w wr)) (fun i _ => 2 - (intOf i).toNat)
  case atStart => exact ⟨0, by decide, rfl, ⟨.inl rfl, fun h => by cases h⟩, Below.refl _ _⟩
  case round =>
    obtain ⟨k, hk, rfl, HK, HB⟩ := hrel
    by_cases hlt : k < 2
    · by_cases hge : s.length ≤ a + k
      · have HF : Hid (R = 1) := by
          show _ = _
          rw [unhide HR]
          unfold enM
          by_cases h0 : k = 0
          · rw [if_pos (by omega)]
          · obtain ⟨h1, h2⟩ := (unhide HK).1.resolve_left h0
            rw [if_neg (by omega), if_neg (fun h => h h2), if_pos (by omega)]
        have hge' : (s.length : Int) ≤ (a : Int) + (k : Int) := by omega
        have hlt' : (k : Int) < 2 := by omega
        go_wp2
        go_ret2
        exact ⟨by rw [unhide HF]; rfl, HB⟩
      · have hge' : ¬ (s.length : Int) ≤ (a : Int) + (k : Int) := by omega
        have hlt' : (k : Int) < 2 := by omega
        obtain ⟨c, hc⟩ : ∃ c, s.getD (a + k) 0 = c := ⟨_, rfl⟩
        obtain ⟨e, he⟩ : ∃ e : UInt8, e = if k = 0 then 13 else 10 := ⟨_, rfl⟩
        have hix : ∀ w, (Instr.index 9 (.string (str s)) (.int .i64 ((a : Int) + (k : Int)))).run Tryz.prog w = .ok (.int .u8 (c.toNat : Int)) w := fun w => by
          rw [← hc, show (a : Int) + (k : Int) = ((a + k : Nat) : Int) by omega]; exact run_ixs w s (a + k) (by omega)
        have hiy : ∀ w, (Instr.index 9 (.string ⟨#[13, 10]⟩) (.int .i64 (k : Int))).run Tryz.prog w = .ok (.int .u8 (e.toNat : Int)) w := fun w => by
          rw [he]
          by_cases h0 : k = 0
          · subst h0; exact unhide HCR w
          · obtain rfl : k = 1 := by omega
            exact unhide HLF w
        have HC : Hid (s.getD (a + k) 0 = c ∧ e = if k = 0 then 13 else 10) := ⟨hc, he⟩
        have hw : IntKind.i64.wrap ((a : Int) + (k : Int)) = (a : Int) + (k : Int) := by rw [IntKind.wrap_i64]; omega
        clear hc he
        by_cases hce : c = e
        · have hq : ((c.toNat : Int) != (e.toNat : Int)) = false := by rw [hce]; simp
          have HK2 : Hid ((k + 1 = 0 ∨ (a < s.length ∧ s.getD a 0 = 13)) ∧ (k + 1 = 2 → a + 1 < s.length ∧ s.getD (a + 1) 0 = 10)) := by
            obtain ⟨h1, h2⟩ := unhide HC
            rw [hce, h2] at h1
            by_cases h0 : k = 0
            · subst h0
              refine ⟨.inr ⟨by omega, by simpa using h1⟩, fun h => by omega⟩
            · obtain rfl : k = 1 := by omega
              exact ⟨.inr ((unhide HK).1.resolve_left h0), fun _ => ⟨by omega, by simpa using h1⟩⟩
          clear hce
          go_upto_region 6 with fail
          go_quiet (fail)
          go_wp2
          go_roundw
          case rel => exact ⟨k + 1, by omega, by go_num, HK2, below_drewN (unhide HB) nq⟩
          case measure => simp [intOf]; omega
        · have hq : ((c.toNat : Int) != (e.toNat : Int)) = true := by
            rw [bne_iff_ne]; intro h; exact hce (UInt8.toNat_inj.1 (by omega))
          have HF : Hid (R = 400) := by
            obtain ⟨h1, h2⟩ := unhide HC
            show _ = _
            rw [unhide HR]
            unfold enM
            by_cases h0 : k = 0
            · subst h0
              rw [if_neg (by omega), if_pos]
              simp only [if_true] at h2
              rw [Nat.add_zero] at h1
              rw [h1, ← h2]; exact hce
            · obtain rfl : k = 1 := by omega
              obtain ⟨h3, h4⟩ := (unhide HK).1.resolve_left h0
              rw [if_neg (by omega), if_neg (fun h => h h4), if_neg (by omega), if_pos]
              simp only [if_neg h0] at h2
              rw [h1, ← h2]; exact hce
          clear hce
          go_upto_region 6 with fail
          go_quiet (fail)
          go_wp2
          go_ret2
          exact ⟨by rw [unhide HF]; rfl, below_drewN (unhide HB) nq⟩
    · obtain rfl : k = 2 := by omega
      have HF : Hid (R = 0) := by
        obtain ⟨h1, h2⟩ := (unhide HK).1.resolve_left (by decide)
        obtain ⟨h3, h4⟩ := (unhide HK).2 rfl
        show _ = _
        rw [unhide HR]
        unfold enM
        rw [if_neg (by omega), if_neg (fun h => h h2), if_neg (by omega), if_neg (fun h => h h4)]
      clear hlt
      go_wp2
      go_ret2
      exact ⟨by rw [unhide HF]; rfl, HB⟩
#print axioms ends8
end Go.Proofs.YtonaekkenggmbaaGreatDoor
end
section
set_option linter.unusedVariables false
set_option maxRecDepth 1000000
namespace Go.Proofs.YtonaekkenggmbaaGreatDoor
open Go.RowKit

def rtx : List UInt8 := [49, 48, 49, 32, 83, 119, 105, 116, 99, 104, 105, 110, 103, 32, 80, 114, 111, 116, 111, 99, 111, 108, 115, 44, 32, 50, 48, 48, 32, 79, 75, 44, 32, 52, 48, 48, 32, 66, 97, 100, 32, 82, 101, 113, 117, 101, 115, 116, 44, 32, 52, 48, 49, 32, 85, 110, 97, 117, 116, 104, 111, 114, 105, 122, 101, 100, 44, 32, 52, 48, 51, 32, 70, 111, 114, 98, 105, 100, 100, 101, 110, 44, 32, 52, 48, 52, 32, 78, 111, 116, 32, 70, 111, 117, 110, 100, 44, 32, 52, 48, 53, 32, 77, 101, 116, 104, 111, 100, 32, 78, 111, 116, 32, 65, 108, 108, 111, 119, 101, 100, 44, 32, 52, 48, 57, 32, 67, 111, 110, 102, 108, 105, 99, 116, 44, 32, 52, 49, 51, 32, 67, 111, 110, 116, 101, 110, 116, 32, 84, 111, 111, 32, 76, 97, 114, 103, 101, 44, 32, 52, 49, 52, 32, 85, 82, 73, 32, 84, 111, 111, 32, 76, 111, 110, 103, 44, 32, 52, 50, 50, 32, 85, 110, 112, 114, 111, 99, 101, 115, 115, 97, 98, 108, 101, 32, 67, 111, 110, 116, 101, 110, 116, 44, 32, 52, 50, 54, 32, 85, 112, 103, 114, 97, 100, 101, 32, 82, 101, 113, 117, 105, 114, 101, 100, 44, 32, 52, 51, 49, 32, 82, 101, 113, 117, 101, 115, 116, 32, 72, 101, 97, 100, 101, 114, 32, 70, 105, 101, 108, 100, 115, 32, 84, 111, 111, 32, 76, 97, 114, 103, 101, 44, 32, 53, 48, 48, 32, 73, 110, 116, 101, 114, 110, 97, 108, 32, 83, 101, 114, 118, 101, 114, 32, 69, 114, 114, 111, 114, 44, 32, 53, 48, 49, 32, 78, 111, 116, 32, 73, 109, 112, 108, 101, 109, 101, 110, 116, 101, 100, 44, 32, 53, 48, 51, 32, 83, 101, 114, 118, 105, 99, 101, 32, 85, 110, 97, 118, 97, 105, 108, 97, 98, 108, 101, 44, 32, 53, 48, 53, 32, 72, 84, 84, 80, 32, 86, 101, 114, 115, 105, 111, 110, 32, 78, 111, 116, 32, 83, 117, 112, 112, 111, 114, 116, 101, 100, 44, 32, 53, 48, 55, 32, 73, 110, 115, 117, 102, 102, 105, 99, 105, 101, 110, 116, 32, 83, 116, 111, 114, 97, 103, 101, 44, 32]
def rof : List Nat := [0, 25, 33, 50, 68, 83, 98, 122, 136, 159, 177, 204, 226, 263, 290, 311, 336, 368, 394]
def rcd : List Nat := [101, 200, 400, 401, 403, 404, 405, 409, 413, 414, 422, 426, 431, 500, 501, 503, 505, 507]
def rwd : List (List UInt8) := [[83, 119, 105, 116, 99, 104, 105, 110, 103, 32, 80, 114, 111, 116, 111, 99, 111, 108, 115], [79, 75], [66, 97, 100, 32, 82, 101, 113, 117, 101, 115, 116], [85, 110, 97, 117, 116, 104, 111, 114, 105, 122, 101, 100], [70, 111, 114, 98, 105, 100, 100, 101, 110], [78, 111, 116, 32, 70, 111, 117, 110, 100], [77, 101, 116, 104, 111, 100, 32, 78, 111, 116, 32, 65, 108, 108, 111, 119, 101, 100], [67, 111, 110, 102, 108, 105, 99, 116], [67, 111, 110, 116, 101, 110, 116, 32, 84, 111, 111, 32, 76, 97, 114, 103, 101], [85, 82, 73, 32, 84, 111, 111, 32, 76, 111, 110, 103], [85, 110, 112, 114, 111, 99, 101, 115, 115, 97, 98, 108, 101, 32, 67, 111, 110, 116, 101, 110, 116], [85, 112, 103, 114, 97, 100, 101, 32, 82, 101, 113, 117, 105, 114, 101, 100], [82, 101, 113, 117, 101, 115, 116, 32, 72, 101, 97, 100, 101, 114, 32, 70, 105, 101, 108, 100, 115, 32, 84, 111, 111, 32, 76, 97, 114, 103, 101], [73, 110, 116, 101, 114, 110, 97, 108, 32, 83, 101, 114, 118, 101, 114, 32, 69, 114, 114, 111, 114], [78, 111, 116, 32, 73, 109, 112, 108, 101, 109, 101, 110, 116, 101, 100], [83, 101, 114, 118, 105, 99, 101, 32, 85, 110, 97, 118, 97, 105, 108, 97, 98, 108, 101], [72, 84, 84, 80, 32, 86, 101, 114, 115, 105, 111, 110, 32, 78, 111, 116, 32, 83, 117, 112, 112, 111, 114, 116, 101, 100], [73, 110, 115, 117, 102, 102, 105, 99, 105, 101, 110, 116, 32, 83, 116, 111, 114, 97, 103, 101]]
/-- The words of a status, from the k-th row on. -/
def reF (st : Int) : Nat → Nat → List UInt8
  | 0, _ => []
  | f + 1, k => if (rcd.getD k 0 : Int) = st then rwd.getD k [] else reF st f (k + 1)
def reM (st : Int) : List UInt8 := reF st 18 0
def txt (k : Nat) : List UInt8 := rtx.drop (rof.getD k 0)
def rn (k : Nat) : Nat := rof.getD (k + 1) 0 - rof.getD k 0 - 2
theorem cut_mid2 (s : List UInt8) (a n : Nat) : (str s).extract a n = str ((s.drop a).take (n - a)) := by
  have := ByteArray.extract_mk s a n
  simpa [str, List.extract_eq_take_drop] using this
theorem txt_all : ∀ k, k < 18 → (whM [44, 32] (txt k) = rn k ∧ nuM ((txt k).take 3) = (rcd.getD k 0 : Int)) ∧ (((txt k).drop 4).take (rn k - 4) = rwd.getD k [] ∧ (txt k).drop (rn k + 2) = txt (k + 1)) ∧ (5 ≤ rn k ∧ rn k + 2 ≤ (txt k).length ∧ (txt k).length ≤ 1000) := by decide +kernel
theorem txt_end : txt 18 = [] := by decide +kernel
set_option maxHeartbeats 1000000 in
theorem reason_any (st : Int) (w : World) : Calls Tryz.prog 28 #[.int .i64 st] w fun e w' => e = .returned (.string (str (reM st))) ∧ w' = w := by
  by_cases h101 : st = 101
  · subst h101
    have e : reM 101 = [83, 119, 105, 116, 99, 104, 105, 110, 103, 32, 80, 114, 111, 116, 111, 99, 111, 108, 115] := by decide +kernel
    rw [e]
    go_enter Tryz.func28, Tryz.ntmps28
    go_wp2
    go_ret
    exact ⟨rfl, rfl⟩
  have b101 : (st == 101) = false := by rw [beq_eq_false_iff_ne]; exact h101
  by_cases h200 : st = 200
  · subst h200
    have e : reM 200 = [79, 75] := by decide +kernel
    rw [e]
    go_enter Tryz.func28, Tryz.ntmps28
    go_wp2
    go_ret
    exact ⟨rfl, rfl⟩
  have b200 : (st == 200) = false := by rw [beq_eq_false_iff_ne]; exact h200
  by_cases h400 : st = 400
  · subst h400
    have e : reM 400 = [66, 97, 100, 32, 82, 101, 113, 117, 101, 115, 116] := by decide +kernel
    rw [e]
    go_enter Tryz.func28, Tryz.ntmps28
    go_wp2
    go_ret
    exact ⟨rfl, rfl⟩
  have b400 : (st == 400) = false := by rw [beq_eq_false_iff_ne]; exact h400
  by_cases h401 : st = 401
  · subst h401
    have e : reM 401 = [85, 110, 97, 117, 116, 104, 111, 114, 105, 122, 101, 100] := by decide +kernel
    rw [e]
    go_enter Tryz.func28, Tryz.ntmps28
    go_wp2
    go_ret
    exact ⟨rfl, rfl⟩
  have b401 : (st == 401) = false := by rw [beq_eq_false_iff_ne]; exact h401
  by_cases h403 : st = 403
  · subst h403
    have e : reM 403 = [70, 111, 114, 98, 105, 100, 100, 101, 110] := by decide +kernel
    rw [e]
    go_enter Tryz.func28, Tryz.ntmps28
    go_wp2
    go_ret
    exact ⟨rfl, rfl⟩
  have b403 : (st == 403) = false := by rw [beq_eq_false_iff_ne]; exact h403
  by_cases h404 : st = 404
  · subst h404
    have e : reM 404 = [78, 111, 116, 32, 70, 111, 117, 110, 100] := by decide +kernel
    rw [e]
    go_enter Tryz.func28, Tryz.ntmps28
    go_wp2
    go_ret
    exact ⟨rfl, rfl⟩
  have b404 : (st == 404) = false := by rw [beq_eq_false_iff_ne]; exact h404
  by_cases h405 : st = 405
  · subst h405
    have e : reM 405 = [77, 101, 116, 104, 111, 100, 32, 78, 111, 116, 32, 65, 108, 108, 111, 119, 101, 100] := by decide +kernel
    rw [e]
    go_enter Tryz.func28, Tryz.ntmps28
    go_wp2
    go_ret
    exact ⟨rfl, rfl⟩
  have b405 : (st == 405) = false := by rw [beq_eq_false_iff_ne]; exact h405
  by_cases h409 : st = 409
  · subst h409
    have e : reM 409 = [67, 111, 110, 102, 108, 105, 99, 116] := by decide +kernel
    rw [e]
    go_enter Tryz.func28, Tryz.ntmps28
    go_wp2
    go_ret
    exact ⟨rfl, rfl⟩
  have b409 : (st == 409) = false := by rw [beq_eq_false_iff_ne]; exact h409
  by_cases h413 : st = 413
  · subst h413
    have e : reM 413 = [67, 111, 110, 116, 101, 110, 116, 32, 84, 111, 111, 32, 76, 97, 114, 103, 101] := by decide +kernel
    rw [e]
    go_enter Tryz.func28, Tryz.ntmps28
    go_wp2
    go_ret
    exact ⟨rfl, rfl⟩
  have b413 : (st == 413) = false := by rw [beq_eq_false_iff_ne]; exact h413
  by_cases h414 : st = 414
  · subst h414
    have e : reM 414 = [85, 82, 73, 32, 84, 111, 111, 32, 76, 111, 110, 103] := by decide +kernel
    rw [e]
    go_enter Tryz.func28, Tryz.ntmps28
    go_wp2
    go_ret
    exact ⟨rfl, rfl⟩
  have b414 : (st == 414) = false := by rw [beq_eq_false_iff_ne]; exact h414
  by_cases h422 : st = 422
  · subst h422
    have e : reM 422 = [85, 110, 112, 114, 111, 99, 101, 115, 115, 97, 98, 108, 101, 32, 67, 111, 110, 116, 101, 110, 116] := by decide +kernel
    rw [e]
    go_enter Tryz.func28, Tryz.ntmps28
    go_wp2
    go_ret
    exact ⟨rfl, rfl⟩
  have b422 : (st == 422) = false := by rw [beq_eq_false_iff_ne]; exact h422
  by_cases h426 : st = 426
  · subst h426
    have e : reM 426 = [85, 112, 103, 114, 97, 100, 101, 32, 82, 101, 113, 117, 105, 114, 101, 100] := by decide +kernel
    rw [e]
    go_enter Tryz.func28, Tryz.ntmps28
    go_wp2
    go_ret
    exact ⟨rfl, rfl⟩
  have b426 : (st == 426) = false := by rw [beq_eq_false_iff_ne]; exact h426
  by_cases h431 : st = 431
  · subst h431
    have e : reM 431 = [82, 101, 113, 117, 101, 115, 116, 32, 72, 101, 97, 100, 101, 114, 32, 70, 105, 101, 108, 100, 115, 32, 84, 111, 111, 32, 76, 97, 114, 103, 101] := by decide +kernel
    rw [e]
    go_enter Tryz.func28, Tryz.ntmps28
    go_wp2
    go_ret
    exact ⟨rfl, rfl⟩
  have b431 : (st == 431) = false := by rw [beq_eq_false_iff_ne]; exact h431
  by_cases h500 : st = 500
  · subst h500
    have e : reM 500 = [73, 110, 116, 101, 114, 110, 97, 108, 32, 83, 101, 114, 118, 101, 114, 32, 69, 114, 114, 111, 114] := by decide +kernel
    rw [e]
    go_enter Tryz.func28, Tryz.ntmps28
    go_wp2
    go_ret
    exact ⟨rfl, rfl⟩
  have b500 : (st == 500) = false := by rw [beq_eq_false_iff_ne]; exact h500
  by_cases h501 : st = 501
  · subst h501
    have e : reM 501 = [78, 111, 116, 32, 73, 109, 112, 108, 101, 109, 101, 110, 116, 101, 100] := by decide +kernel
    rw [e]
    go_enter Tryz.func28, Tryz.ntmps28
    go_wp2
    go_ret
    exact ⟨rfl, rfl⟩
  have b501 : (st == 501) = false := by rw [beq_eq_false_iff_ne]; exact h501
  by_cases h503 : st = 503
  · subst h503
    have e : reM 503 = [83, 101, 114, 118, 105, 99, 101, 32, 85, 110, 97, 118, 97, 105, 108, 97, 98, 108, 101] := by decide +kernel
    rw [e]
    go_enter Tryz.func28, Tryz.ntmps28
    go_wp2
    go_ret
    exact ⟨rfl, rfl⟩
  have b503 : (st == 503) = false := by rw [beq_eq_false_iff_ne]; exact h503
  by_cases h505 : st = 505
  · subst h505
    have e : reM 505 = [72, 84, 84, 80, 32, 86, 101, 114, 115, 105, 111, 110, 32, 78, 111, 116, 32, 83, 117, 112, 112, 111, 114, 116, 101, 100] := by decide +kernel
    rw [e]
    go_enter Tryz.func28, Tryz.ntmps28
    go_wp2
    go_ret
    exact ⟨rfl, rfl⟩
  have b505 : (st == 505) = false := by rw [beq_eq_false_iff_ne]; exact h505
  by_cases h507 : st = 507
  · subst h507
    have e : reM 507 = [73, 110, 115, 117, 102, 102, 105, 99, 105, 101, 110, 116, 32, 83, 116, 111, 114, 97, 103, 101] := by decide +kernel
    rw [e]
    go_enter Tryz.func28, Tryz.ntmps28
    go_wp2
    go_ret
    exact ⟨rfl, rfl⟩
  have b507 : (st == 507) = false := by rw [beq_eq_false_iff_ne]; exact h507
  have e : reM st = [] := by
    simp [reM, reF, rcd, Ne.symm h101, Ne.symm h200, Ne.symm h400, Ne.symm h401, Ne.symm h403, Ne.symm h404, Ne.symm h405, Ne.symm h409, Ne.symm h413, Ne.symm h414, Ne.symm h422, Ne.symm h426, Ne.symm h431, Ne.symm h500, Ne.symm h501, Ne.symm h503, Ne.symm h505, Ne.symm h507]
  rw [e]
  clear e
  go_enter Tryz.func28, Tryz.ntmps28
  go_wp2
  go_ret
  exact ⟨rfl, rfl⟩
set_option maxHeartbeats 1000000 in
theorem rreason (st : Int) (w : World) : Calls Tryz.prog 29 #[.int .i64 st] w fun e w' => e = .returned (.string (str (reM st))) ∧ Hid (Below w.heap.size w w') := by
  obtain ⟨X, hX⟩ : ∃ X, X = reM st := ⟨_, rfl⟩
  rw [← hX]
  have HX : Hid (X = reF st 18 0) := hX
  clear hX
  go_enter Tryz.func29, Tryz.ntmps29
  go_wp2
  go_loopw [3] (fun v wr => ∃ k : Nat, k ≤ 18 ∧ v = .string (str (txt k)) ∧ Hid (X = reF st (18 - k) k) ∧ Hid (Below w.heap.size w wr)) (fun v _ => match v with | .string s => s.size | _ => 0)
  case atStart => exact ⟨0, by omega, rfl, HX, Below.refl _ _⟩
  case round =>
    obtain ⟨k, hk, rfl, HK, HB⟩ := hrel
    by_cases hk18 : k < 18
    · obtain ⟨⟨t1, t2⟩, ⟨t3, t4⟩, t5, t6, t7⟩ := txt_all k hk18
      have hXX := unhide HK
      rw [show 18 - k = (17 - k) + 1 by omega, reF] at hXX
      have HXX := hide hXX
      have HW : Hid (∀ w, Calls Tryz.prog 53 #[.string ⟨#[44, 32]⟩, .string (str (txt k))] w fun e w' => e = .returned (.int .i64 (rn k : Int)) ∧ w' = w) := fun w => by
        have := where_any [44, 32] (txt k) w (by omega) (by decide) (by decide)
        rw [t1] at this
        exact this
      have HN : Hid (∀ w, Calls Tryz.prog 54 #[.string (str ((txt k).take 3))] w fun e w' => e = .returned (.int .i64 (rcd.getD k 0 : Int)) ∧ Hid (Below w.heap.size w w')) := fun w => by
        have := number8 ((txt k).take 3) w (by simp; omega)
        rw [t2] at this
        exact this
      have z : (str (txt k)).size = (txt k).length := str_size _
      have e3 : (str (txt k)).extract 0 3 = str ((txt k).take 3) := cut_to _ 3
      have e4 : (str (txt k)).extract 4 (rn k) = str (rwd.getD k []) := by rw [cut_mid2, t3]
      have e5 : (str (txt k)).extract (rn k + 2) (txt k).length = str (txt (k + 1)) := by rw [cut_from, t4]
      have HL5 : Hid ((str (txt (k + 1))).size < (str (txt k)).size) := by
        show _ < _
        rw [str_size, str_size, ← t4]
        simp
        omega
      have qe : (str (txt k)).toList.isEmpty = false := by
        rw [toList_str]
        cases hT : txt k with
        | nil => rw [hT] at t6; simp at t6
        | cons _ _ => rfl
      have HC : Hid (k + 1 ≤ 18 ∧ 18 - (k + 1) = 17 - k) := ⟨by omega, by omega⟩
      clear t1 t2 t3 t4 hXX HK hk18
      generalize hT1 : txt (k + 1) = T1 at *
      generalize txt k = T at *
      generalize rn k = n at *
      generalize rcd.getD k 0 = c at *
      generalize rwd.getD k [] = Wd at *
      have HT1 := hide hT1
      clear hT1
      go_wp2_with fail
      refine (unhide HW _).mono ?_
      rintro e _ ⟨rfl, rfl⟩
      go_wp2_with fail
      refine (unhide HN _).mono ?_
      rintro e w2 ⟨rfl, HB2⟩
      have HB3 : Hid (Below w.heap.size w w2) := (unhide HB).trans ((unhide HB2).mono (unhide HB).size)
      clear HB2 HB HW HN
      by_cases hc : (c : Int) = st
      · have hX2 := unhide HXX
        rw [if_pos hc] at hX2
        subst hX2
        subst hc
        have hcc : ((c : Int) == (c : Int)) = true := by simp
        go_wp2
        go_ret
        exact ⟨rfl, HB3⟩
      · have hX2 := unhide HXX
        rw [if_neg hc] at hX2
        have hcc : ((c : Int) == st) = false := by rw [beq_eq_false_iff_ne]; exact hc
        have HX3 : Hid (X = reF st (18 - (k + 1)) (k + 1)) := by show _ = _; rw [(unhide HC).2]; exact hX2
        clear hX2 hc HXX
        go_wp2
        go_roundw
        case rel => exact ⟨k + 1, (unhide HC).1, by rw [unhide HT1, e5], HX3, HB3⟩
        case measure => rw [e5]; exact unhide HL5
    · obtain rfl : k = 18 := by omega
      have hX2 : X = [] := unhide HK
      subst hX2
      rw [txt_end]
      have qe : (str ([] : List UInt8)).toList.isEmpty = true := by rw [toList_str]; rfl
      go_wp2
      go_ret
      exact ⟨rfl, HB⟩
#print axioms reason_any
#print axioms rreason
end Go.Proofs.YtonaekkenggmbaaGreatDoor
end
section
set_option linter.unusedVariables false
set_option maxRecDepth 100000
namespace Go.Proofs.YtonaekkenggmbaaGreatDoor
open Go.RowKit

def qb (B : List UInt8) : Rq := ⟨[], [], [], B⟩
/-- What comes of it all comes from here on. -/
def RR (s : List UInt8) (y : Nat × Nat × St × Rq) (S : St) (B : List UInt8) (a : Nat) : Prop := y = ((runM RM S (qb B) (s.drop a)).1 + a, (runM RM S (qb B) (s.drop a)).2)
theorem RR.step {s : List UInt8} {y : Nat × Nat × St × Rq} {S S' : St} {B B' : List UInt8} {a : Nat} {c : UInt8} (h : RR s y S B a) (hc : s[a]? = some c) (hs : stepM RM S (qb B) c = (1, S', qb B')) : RR s y S' B' (a + 1) := by
  have hl := (List.getElem?_eq_some_iff.1 hc).1
  have hd : s.drop a = c :: s.drop (a + 1) := by
    rw [List.drop_eq_getElem_cons hl]
    congr 1
    exact (List.getElem?_eq_some_iff.1 hc).2
  unfold RR at h ⊢
  rw [h, hd, runM_one RM S (qb B) c _ (by rw [hs]), hs]
  simp only
  congr 1
  omega
theorem RR.stop {s : List UInt8} {y : Nat × Nat × St × Rq} {S S' : St} {B B' : List UInt8} {a st : Nat} {c : UInt8} (h : RR s y S B a) (hc : s[a]? = some c) (hs : stepM RM S (qb B) c = (st, S', qb B')) (h1 : st ≠ 1) : y = (a + 1, st, S', qb B') := by
  have hl := (List.getElem?_eq_some_iff.1 hc).1
  have hd : s.drop a = c :: s.drop (a + 1) := by
    rw [List.drop_eq_getElem_cons hl]
    congr 1
    exact (List.getElem?_eq_some_iff.1 hc).2
  unfold RR at h
  rw [h, hd, runM_end RM S (qb B) c _ (by rw [hs]; exact h1), hs]
  simp only
  congr 1
  omega
theorem RR.fin {s : List UInt8} {y : Nat × Nat × St × Rq} {S : St} {B : List UInt8} {a : Nat} (h : RR s y S B a) (ha : s.length ≤ a) : y.2.1 = 1 := by
  unfold RR at h
  rw [h, List.drop_eq_nil_of_le ha]
  rfl
theorem gd_get (s : List UInt8) (a : Nat) (h : a < s.length) : s[a]? = some (s.getD a 0) := by
  rw [List.getD_eq_getElem?_getD, List.getElem?_eq_getElem h]; rfl
theorem hex13 (c : UInt8) (x : Nat) (h : hexB c = some x) : c ≠ 13 := by
  rintro rfl
  simp [hexB] at h
theorem RR.digit {s : List UInt8} {y : Nat × Nat × St × Rq} {B : List UInt8} {a n d x : Nat} {c : UInt8} (h : RR s y (.chunk n d) B a) (hc : s[a]? = some c) (hx : hexB c = some x) (hd : d < 8) : RR s y (.chunk (n * 16 + x) (d + 1)) B (a + 1) :=
  h.step hc (by simp only [stepM, hx, if_pos hd])
theorem RR.nine {s : List UInt8} {y : Nat × Nat × St × Rq} {B : List UInt8} {a n d x : Nat} {c : UInt8} (h : RR s y (.chunk n d) B a) (hc : s[a]? = some c) (hx : hexB c = some x) (hd : ¬ d < 8) : y.2.1 = 400 := by
  have := h.stop (st := 400) (S' := .chunk n d) (B' := B) hc (by simp only [stepM, hx, if_neg hd]; rw [if_neg (fun hh => hex13 c x hx hh.1)]) (by decide)
  rw [this]
theorem RR.cr {s : List UInt8} {y : Nat × Nat × St × Rq} {B : List UInt8} {a n d : Nat} (h : RR s y (.chunk n d) B a) (hc : s[a]? = some 13) (hd : 0 < d) : RR s y (.text [10] 0 (.cb n)) B (a + 1) :=
  h.step hc (by
    have : hexB 13 = none := by decide
    simp only [stepM, this]
    rw [if_pos ⟨trivial, hd⟩])
theorem RR.nocr {s : List UInt8} {y : Nat × Nat × St × Rq} {B : List UInt8} {a n d : Nat} {c : UInt8} (h : RR s y (.chunk n d) B a) (hc : s[a]? = some c) (hx : hexB c = none) (hd : ¬ (c = 13 ∧ 0 < d)) : y.2.1 = 400 := by
  have := h.stop (st := 400) (S' := .chunk n d) (B' := B) hc (by simp only [stepM, hx]; rw [if_neg hd]) (by decide)
  rw [this]
/-- The line's end behind a number. -/
theorem RR.line {s : List UInt8} {y : Nat × Nat × St × Rq} {B : List UInt8} {a n d : Nat} (h : RR s y (.chunk n d) B a) (hd : 0 < d) (hx : ∀ c, s[a]? = some c → hexB c = none) :
    (enM s a ≠ 0 → y.2.1 = enM s a) ∧ (enM s a = 0 → a + 2 ≤ s.length ∧ ((32768 - B.length < n → y.2.1 = 413) ∧ (¬ 32768 - B.length < n → (n = 0 → RR s y (.text crlf 0 .fin) B (a + 2)) ∧ (n ≠ 0 → RR s y (.bytes n .tl) B (a + 2))))) := by
  unfold enM
  by_cases h1 : s.length ≤ a
  · rw [if_pos h1]
    exact ⟨fun _ => h.fin h1, fun e => by cases e⟩
  · rw [if_neg h1]
    have g1 := gd_get s a (by omega)
    by_cases h2 : s.getD a 0 ≠ 13
    · rw [if_pos h2]
      exact ⟨fun _ => h.nocr g1 (hx _ g1) (fun e => h2 e.1), fun e => by cases e⟩
    · have e13 : s.getD a 0 = 13 := Classical.byContradiction h2
      rw [if_neg h2]
      rw [e13] at g1
      have hr := h.cr g1 hd
      by_cases h3 : s.length ≤ a + 1
      · rw [if_pos h3]
        exact ⟨fun _ => hr.fin h3, fun e => by cases e⟩
      · rw [if_neg h3]
        have g2 := gd_get s (a + 1) (by omega)
        by_cases h4 : s.getD (a + 1) 0 ≠ 10
        · rw [if_pos h4]
          refine ⟨fun _ => ?_, fun e => by cases e⟩
          have := hr.stop (st := 400) (S' := .text [10] 0 (.cb n)) (B' := B) g2 (by simp only [stepM]; rw [if_pos]; simpa using h4) (by decide)
          rw [this]
        · have e10 : s.getD (a + 1) 0 = 10 := Classical.byContradiction h4
          rw [if_neg h4]
          rw [e10] at g2
          refine ⟨fun e => absurd rfl e, fun _ => ⟨by omega, fun hb => ?_, fun hb => ⟨fun hn => ?_, fun hn => ?_⟩⟩⟩
          · have := hr.stop (st := 413) (S' := .chunk 0 0) (B' := B) g2 (by simp only [stepM, thM, cbM, qb]; rw [if_neg (by simp), if_neg (by simp)]; simp [hb]) (by decide)
            rw [this]
          · exact hr.step g2 (by simp only [stepM, thM, cbM, qb]; rw [if_neg (by simp), if_neg (by simp)]; simp [hn])
          · exact hr.step g2 (by simp only [stepM, thM, cbM, qb]; rw [if_neg (by simp), if_neg (by simp)]; simp [hb, hn])
/-- A chunk's bytes. -/
theorem RR.bytes {s : List UInt8} {y : Nat × Nat × St × Rq} : ∀ (n : Nat) {B : List UInt8} {a : Nat}, RR s y (.bytes n .tl) B a → 0 < n → (s.length - a < n → y.2.1 = 1) ∧ (n ≤ s.length - a → RR s y (.text crlf 0 .chk) (B ++ (s.drop a).take n) (a + n))
  | 0, _, _, _, h => absurd h (by omega)
  | n + 1, B, a, h, _ => by
    by_cases h1 : s.length ≤ a
    · exact ⟨fun _ => h.fin h1, fun e => by omega⟩
    · have g1 := gd_get s a (by omega)
      have hd : s.drop a = s.getD a 0 :: s.drop (a + 1) := by
        rw [List.drop_eq_getElem_cons (by omega)]
        congr 1
        exact ((List.getElem?_eq_some_iff.1 g1).2)
      cases n with
      | zero =>
        have hr := h.step (S' := .text crlf 0 .chk) (B' := B ++ [s.getD a 0]) g1 (by simp [stepM, thM, qb])
        exact ⟨fun e => by omega, fun _ => by rw [hd]; simpa using hr⟩
      | succ n =>
        have hr := h.step (S' := .bytes (n + 1) .tl) (B' := B ++ [s.getD a 0]) g1 (by simp [stepM, qb])
        obtain ⟨i1, i2⟩ := RR.bytes (n + 1) hr (by omega)
        refine ⟨fun e => i1 (by omega), fun e => ?_⟩
        have := i2 (by omega)
        rw [hd, List.take_succ_cons, List.append_cons]
        rw [show a + (n + 1 + 1) = a + 1 + (n + 1) by omega]
        exact this
/-- A line's end. -/
theorem RR.crlf {s : List UInt8} {y : Nat × Nat × St × Rq} {B : List UInt8} {a : Nat} {t : Th} (h : RR s y (.text crlf 0 t) B a) :
    (enM s a ≠ 0 → y.2.1 = enM s a) ∧ (enM s a = 0 → a + 2 ≤ s.length ∧ (t = .fin → y.1 = a + 2 ∧ y.2.1 = 0 ∧ y.2.2.2 = qb B) ∧ (t = .chk → RR s y (.chunk 0 0) B (a + 2))) := by
  unfold enM
  by_cases h1 : s.length ≤ a
  · rw [if_pos h1]
    exact ⟨fun _ => h.fin h1, fun e => by cases e⟩
  · rw [if_neg h1]
    have g1 := gd_get s a (by omega)
    by_cases h2 : s.getD a 0 ≠ 13
    · rw [if_pos h2]
      refine ⟨fun _ => ?_, fun e => by cases e⟩
      have := h.stop (st := 400) (S' := .text Proofs.YtonaekkenggmbaaGreatDoor.crlf 0 t) (B' := B) g1 (by simp only [stepM]; rw [if_pos]; simpa [Proofs.YtonaekkenggmbaaGreatDoor.crlf] using h2) (by decide)
      rw [this]
    · have e13 : s.getD a 0 = 13 := Classical.byContradiction h2
      rw [if_neg h2]
      rw [e13] at g1
      have hr := h.step (S' := .text Proofs.YtonaekkenggmbaaGreatDoor.crlf 1 t) (B' := B) g1 (by simp [stepM, Proofs.YtonaekkenggmbaaGreatDoor.crlf])
      by_cases h3 : s.length ≤ a + 1
      · rw [if_pos h3]
        exact ⟨fun _ => hr.fin h3, fun e => by cases e⟩
      · rw [if_neg h3]
        have g2 := gd_get s (a + 1) (by omega)
        by_cases h4 : s.getD (a + 1) 0 ≠ 10
        · rw [if_pos h4]
          refine ⟨fun _ => ?_, fun e => by cases e⟩
          have := hr.stop (st := 400) (S' := .text Proofs.YtonaekkenggmbaaGreatDoor.crlf 1 t) (B' := B) g2 (by simp only [stepM]; rw [if_pos]; simpa [Proofs.YtonaekkenggmbaaGreatDoor.crlf] using h4) (by decide)
          rw [this]
        · have e10 : s.getD (a + 1) 0 = 10 := Classical.byContradiction h4
          rw [if_neg h4]
          rw [e10] at g2
          refine ⟨fun e => absurd rfl e, fun _ => ⟨by omega, fun ht => ?_, fun ht => ?_⟩⟩
          · subst ht
            have := hr.stop (st := 0) (S' := .text Proofs.YtonaekkenggmbaaGreatDoor.crlf 1 .fin) (B' := B) g2 (by simp [stepM, Proofs.YtonaekkenggmbaaGreatDoor.crlf, thM]) (by decide)
            rw [this]
            exact ⟨rfl, rfl, rfl⟩
          · subst ht
            exact hr.step g2 (by simp [stepM, Proofs.YtonaekkenggmbaaGreatDoor.crlf, thM])
#print axioms RR.crlf
end Go.Proofs.YtonaekkenggmbaaGreatDoor
end
section
set_option linter.unusedVariables false
set_option maxRecDepth 1000000
namespace Go.Proofs.YtonaekkenggmbaaGreatDoor
open Go.RowKit

def er4 (n : Nat) : List UInt8 × List UInt8 × Nat := ([], [], n)
/-- The version's test, test by test. -/
def ver8 (v : List UInt8) : Bool := !decide (v.length = 8) || (!(hHTTP.isPrefixOf v) || (!isM 1 (v.getD 5 0) || (!decide (v.getD 6 0 = 46) || !isM 1 (v.getD 7 0))))
def kn8 (m : List UInt8) : Bool := !(m == [71, 69, 84]) && (!(m == [80, 79, 83, 84]) && (!(m == [80, 85, 84]) && !(m == [68, 69, 76, 69, 84, 69])))
def ln4 (m t v : List UInt8) : List UInt8 × List UInt8 × Nat := if (v == h11) = true then (if kn8 m = true then er4 501 else if 1024 < t.length then er4 414 else (m, t, 0)) else er4 505
def ln3 (m t v : List UInt8) : List UInt8 × List UInt8 × Nat :=
  if (!decide (etM 7 v = v.length) || (!alM m 1 16 2 || (!([47].isPrefixOf t) || !alM t 1 8192 3))) = true then er4 400 else if ver8 v = true then er4 400 else ln4 m t v
def ln2 (m s : List UInt8) : List UInt8 × List UInt8 × Nat := if (decide (etM 7 s = 0) || decide (etM 7 s = s.length)) = true then er4 400 else ln3 m (s.take (etM 7 s)) (s.drop (etM 7 s + 1))
def lnM (s : List UInt8) : List UInt8 × List UInt8 × Nat := if (decide (etM 7 s = 0) || decide (etM 7 s = s.length)) = true then er4 400 else ln2 (s.take (etM 7 s)) (s.drop (etM 7 s + 1))
set_option maxHeartbeats 4000000 in
theorem line8 (s : List UInt8) (w : World) (hs : s.length ≤ 1000000) :
    Calls Tryz.prog 74 #[.string (str s)] w fun e w' => e = .returned (.tuple #[.string (str (lnM s).1), .string (str (lnM s).2.1), .int .i64 ((lnM s).2.2 : Int)]) ∧ Hid (Below w.heap.size w w') := by
  have z1 : (str s).size = s.length := str_size s
  have HE : Hid (Calls Tryz.prog 86 #[.string (str s), .int .i64 7] w fun e w' => e = .returned (.int .i64 (etM 7 s : Int)) ∧ Hid (Below w.heap.size w w')) := eat_any s 7 (by decide) w hs
  obtain ⟨X, hX⟩ : ∃ X, X = lnM s := ⟨_, rfl⟩
  rw [← hX]
  unfold lnM at hX
  have hal := etM_le 7 s
  generalize etM 7 s = a at *
  have HX := hide hX
  clear hX
  go_enter Tryz.func74, Tryz.ntmps74
  go_wp2_with fail
  refine (unhide HE).mono ?_
  rintro e w1 ⟨rfl, HB1⟩
  clear HE
  by_cases h0 : a = 0
  · have e0 : ((a : Int) == 0) = true := by rw [beq_iff_eq]; omega
    rw [decide_eq_true h0] at HX
    clear h0 hal
    go_wp2
    go_ret3
    exact ⟨by rw [unhide HX]; rfl, HB1⟩
  · have e0 : ((a : Int) == 0) = false := by rw [beq_eq_false_iff_ne]; omega
    by_cases hl : a = s.length
    · have el : ((a : Int) == (s.length : Int)) = true := by rw [beq_iff_eq]; omega
      rw [decide_eq_true hl, decide_eq_false h0] at HX
      clear h0 hl hal
      go_wp2
      go_ret3
      exact ⟨by rw [unhide HX]; rfl, HB1⟩
    · have el : ((a : Int) == (s.length : Int)) = false := by rw [beq_eq_false_iff_ne]; omega
      rw [decide_eq_false hl, decide_eq_false h0] at HX
      have ha1 : a + 1 ≤ s.length := by omega
      obtain ⟨m, hm⟩ : ∃ m, m = s.take a := ⟨_, rfl⟩
      obtain ⟨t, ht⟩ : ∃ t, t = s.drop (a + 1) := ⟨_, rfl⟩
      have x1 : (str s).extract 0 a = str m := by rw [hm]; exact cut_to s a
      have x2 : (str s).extract (a + 1) s.length = str t := by rw [ht]; exact cut_from s (a + 1)
      have hml : m.length ≤ 1000000 := by rw [hm]; simp; omega
      have htl : t.length ≤ 1000000 := by rw [ht]; simp; omega
      rw [← hm, ← ht] at HX
      have HX2 : Hid (X = ln2 m t) := unhide HX
      clear HX hm ht h0 hl
      have z2 : (str t).size = t.length := str_size t
      have HE : Hid (∀ w, Calls Tryz.prog 86 #[.string (str t), .int .i64 7] w fun e w' => e = .returned (.int .i64 (etM 7 t : Int)) ∧ Hid (Below w.heap.size w w')) := fun w => eat_any t 7 (by decide) w htl
      have hX := unhide HX2
      unfold ln2 at hX
      have hbl := etM_le 7 t
      generalize etM 7 t = b at *
      have HX := hide hX
      clear hX HX2
      go_upto_region 4 with fail
      go_quiet (fail)
      go_wp2_with fail
      refine (unhide HE _).mono ?_
      rintro e w2 ⟨rfl, HB2'⟩
      have HB2 : Hid (Below w.heap.size w w2) := (below_drewN (unhide HB1) nq).trans ((unhide HB2').mono (below_drewN (unhide HB1) nq).size)
      clear HE HB2' HB1 x1 x2
      by_cases h0 : b = 0
      · have e0 : ((b : Int) == 0) = true := by rw [beq_iff_eq]; omega
        rw [decide_eq_true h0] at HX
        clear h0 hbl
        go_wp2
        go_ret3
        exact ⟨by rw [unhide HX]; rfl, HB2⟩
      · have e0 : ((b : Int) == 0) = false := by rw [beq_eq_false_iff_ne]; omega
        by_cases hl : b = t.length
        · have el : ((b : Int) == (t.length : Int)) = true := by rw [beq_iff_eq]; omega
          rw [decide_eq_true hl, decide_eq_false h0] at HX
          clear h0 hl hbl
          go_wp2
          go_ret3
          exact ⟨by rw [unhide HX]; rfl, HB2⟩
        · have el : ((b : Int) == (t.length : Int)) = false := by rw [beq_eq_false_iff_ne]; omega
          rw [decide_eq_false hl, decide_eq_false h0] at HX
          have hb1 : b + 1 ≤ t.length := by omega
          obtain ⟨g, hg⟩ : ∃ g, g = t.take b := ⟨_, rfl⟩
          obtain ⟨v, hv⟩ : ∃ v, v = t.drop (b + 1) := ⟨_, rfl⟩
          have x1 : (str t).extract 0 b = str g := by rw [hg]; exact cut_to t b
          have x2 : (str t).extract (b + 1) t.length = str v := by rw [hv]; exact cut_from t (b + 1)
          have hgl : g.length ≤ 1000000 := by rw [hg]; simp; omega
          have hvl : v.length ≤ 1000000 := by rw [hv]; simp; omega
          rw [← hg, ← hv] at HX
          have HX2 : Hid (X = ln3 m g v) := unhide HX
          clear HX hg hv h0 hl
          have z3 : (str v).size = v.length := str_size v
          have z4 : (str g).size = g.length := str_size g
          have HE : Hid (∀ w, Calls Tryz.prog 86 #[.string (str v), .int .i64 7] w fun e w' => e = .returned (.int .i64 (etM 7 v : Int)) ∧ Hid (Below w.heap.size w w')) := fun w => eat_any v 7 (by decide) w hvl
          have HA1 : Hid (∀ w, Calls Tryz.prog 80 #[.string (str m), .int .i64 1, .int .i64 16, .int .i64 2] w fun e w' => e = .returned (.bool (alM m 1 16 2)) ∧ Hid (Below w.heap.size w w')) := fun w => all8_any m 1 16 2 (by decide) w hml (by decide) (by decide)
          have HA2 : Hid (∀ w, Calls Tryz.prog 79 #[.string (str g), .string ⟨#[47]⟩] w fun e w' => e = .returned (.bool ([47].isPrefixOf g)) ∧ w' = w) := fun w => begins_any g [47] w (by omega) (by decide)
          have HA3 : Hid (∀ w, Calls Tryz.prog 80 #[.string (str g), .int .i64 1, .int .i64 8192, .int .i64 3] w fun e w' => e = .returned (.bool (alM g 1 8192 3)) ∧ Hid (Below w.heap.size w w')) := fun w => all8_any g 1 8192 3 (by decide) w hgl (by decide) (by decide)
          have HA4 : Hid (∀ w, Calls Tryz.prog 79 #[.string (str v), .string ⟨#[72, 84, 84, 80, 47]⟩] w fun e w' => e = .returned (.bool (hHTTP.isPrefixOf v)) ∧ w' = w) := fun w => begins_any v hHTTP w (by omega) (by decide)
          have HI1 : Hid (∀ w, Calls Tryz.prog 77 #[.int .u8 ((v.getD 5 0).toNat : Int), .int .i64 1] w fun e w' => e = .returned (.bool (isM 1 (v.getD 5 0))) ∧ Hid (Below w.heap.size w w')) := fun w => is1_any (v.getD 5 0) w
          have HI2 : Hid (∀ w, Calls Tryz.prog 77 #[.int .u8 ((v.getD 7 0).toNat : Int), .int .i64 1] w fun e w' => e = .returned (.bool (isM 1 (v.getD 7 0))) ∧ Hid (Below w.heap.size w w')) := fun w => is1_any (v.getD 7 0) w
          have HIX : Hid (v.length = 8 → (∀ w, (Instr.index 9 (.string (str v)) (.int .i64 5)).run Tryz.prog w = .ok (.int .u8 ((v.getD 5 0).toNat : Int)) w) ∧ (∀ w, (Instr.index 9 (.string (str v)) (.int .i64 6)).run Tryz.prog w = .ok (.int .u8 ((v.getD 6 0).toNat : Int)) w) ∧ (∀ w, (Instr.index 9 (.string (str v)) (.int .i64 7)).run Tryz.prog w = .ok (.int .u8 ((v.getD 7 0).toNat : Int)) w)) := fun h => ⟨fun w => run_ixs w v 5 (by omega), fun w => run_ixs w v 6 (by omega), fun w => run_ixs w v 7 (by omega)⟩
          have hX := unhide HX2
          unfold ln3 ver8 ln4 kn8 at hX
          generalize v.getD 5 0 = v5 at *
          generalize v.getD 6 0 = v6 at *
          generalize v.getD 7 0 = v7 at *
          generalize etM 7 v = c at *
          generalize alM m 1 16 2 = b1 at *
          generalize ([47] : List UInt8).isPrefixOf g = b2 at *
          generalize alM g 1 8192 3 = b3 at *
          generalize hHTTP.isPrefixOf v = b4 at *
          generalize isM 1 v5 = b5 at *
          generalize isM 1 v7 = b7 at *
          obtain ⟨q1, hq1⟩ : ∃ q, (v == h11) = q := ⟨_, rfl⟩
          obtain ⟨k1, hk1⟩ : ∃ q, (m == [71, 69, 84]) = q := ⟨_, rfl⟩
          obtain ⟨k2, hk2⟩ : ∃ q, (m == [80, 79, 83, 84]) = q := ⟨_, rfl⟩
          obtain ⟨k3, hk3⟩ : ∃ q, (m == [80, 85, 84]) = q := ⟨_, rfl⟩
          obtain ⟨k4, hk4⟩ : ∃ q, (m == [68, 69, 76, 69, 84, 69]) = q := ⟨_, rfl⟩
          rw [hq1, hk1, hk2, hk3, hk4] at hX
          have tq : ((str v).toList == [72, 84, 84, 80, 47, 49, 46, 49]) = q1 := by rw [toList_str]; exact hq1
          have t1 : ((str m).toList == [71, 69, 84]) = k1 := by rw [toList_str]; exact hk1
          have t2 : ((str m).toList == [80, 79, 83, 84]) = k2 := by rw [toList_str]; exact hk2
          have t3 : ((str m).toList == [80, 85, 84]) = k3 := by rw [toList_str]; exact hk3
          have t4 : ((str m).toList == [68, 69, 76, 69, 84, 69]) = k4 := by rw [toList_str]; exact hk4
          have HX := hide hX
          clear hX HX2 hq1 hk1 hk2 hk3 hk4
          go_upto_region 8 with fail
          go_quiet (fail)
          go_wp2_with fail
          refine (unhide HE _).mono ?_
          rintro e w3 ⟨rfl, HB3'⟩
          have HB3 : Hid (Below w.heap.size w w3) := (below_drewN (unhide HB2) nq).trans ((unhide HB3').mono (below_drewN (unhide HB2) nq).size)
          clear HE HB3' HB2 x1 x2
          by_cases hc : c = v.length
          · have ec : ((c : Int) != (v.length : Int)) = false := by rw [bne_eq_false_iff_eq]; omega
            rw [decide_eq_true hc] at HX
            clear hc
            go_wp2_with fail
            refine (unhide HA1 _).mono ?_
            rintro e w4 ⟨rfl, HB4'⟩
            have HB4 : Hid (Below w.heap.size w w4) := (unhide HB3).trans ((unhide HB4').mono (unhide HB3).size)
            clear HB4' HB3 HA1
            cases b1 with
            | false =>
              go_wp2
              go_ret3
              exact ⟨by rw [unhide HX]; rfl, HB4⟩
            | true =>
              go_wp2_with fail
              refine (unhide HA2 _).mono ?_
              rintro e w4 ⟨rfl, rfl⟩
              clear HA2
              cases b2 with
              | false =>
                go_wp2
                go_ret3
                exact ⟨by rw [unhide HX]; rfl, HB4⟩
              | true =>
                go_wp2_with fail
                refine (unhide HA3 _).mono ?_
                rintro e w5 ⟨rfl, HB5'⟩
                have HB5 : Hid (Below w.heap.size w w5) := (unhide HB4).trans ((unhide HB5').mono (unhide HB4).size)
                clear HB5' HB4 HA3
                cases b3 with
                | false =>
                  go_wp2
                  go_ret3
                  exact ⟨by rw [unhide HX]; rfl, HB5⟩
                | true =>
                  by_cases h8 : v.length = 8
                  · obtain ⟨i5, i6, i7⟩ := unhide HIX h8
                    have e8 : ((v.length : Int) != 8) = false := by rw [bne_eq_false_iff_eq]; omega
                    rw [decide_eq_true h8] at HX
                    clear h8 HIX
                    go_wp2_with fail
                    refine (unhide HA4 _).mono ?_
                    rintro e w5 ⟨rfl, rfl⟩
                    clear HA4
                    cases b4 with
                    | false =>
                      go_wp2
                      go_ret3
                      exact ⟨by rw [unhide HX]; rfl, HB5⟩
                    | true =>
                      go_wp2_with fail
                      refine (unhide HI1 _).mono ?_
                      rintro e w6 ⟨rfl, HB6'⟩
                      have HB6 : Hid (Below w.heap.size w w6) := (unhide HB5).trans ((unhide HB6').mono (unhide HB5).size)
                      clear HB6' HB5 HI1
                      cases b5 with
                      | false =>
                        go_wp2
                        go_ret3
                        exact ⟨by rw [unhide HX]; rfl, HB6⟩
                      | true =>
                        by_cases h46 : v6 = 46
                        · have e46 : ((v6.toNat : Int) != 46) = false := by rw [bne_eq_false_iff_eq, h46]; rfl
                          rw [decide_eq_true h46] at HX
                          clear h46
                          go_wp2_with fail
                          refine (unhide HI2 _).mono ?_
                          rintro e w7 ⟨rfl, HB7'⟩
                          have HB7 : Hid (Below w.heap.size w w7) := (unhide HB6).trans ((unhide HB7').mono (unhide HB6).size)
                          clear HB7' HB6 HI2
                          cases b7 with
                          | false =>
                            go_wp2
                            go_ret3
                            exact ⟨by rw [unhide HX]; rfl, HB7⟩
                          | true =>
                            cases q1 with
                            | false =>
                              go_wp2
                              go_ret3
                              exact ⟨by rw [unhide HX]; rfl, HB7⟩
                            | true =>
                              by_cases hk : (!k1 && (!k2 && (!k3 && !k4))) = true
                              · simp only [Bool.and_eq_true, Bool.not_eq_true'] at hk
                                obtain ⟨r1, r2, r3, r4⟩ := hk
                                subst r1 r2 r3 r4
                                go_wp2
                                go_ret3
                                exact ⟨by rw [unhide HX]; rfl, HB7⟩
                              · have hk' : k1 = true ∨ (k1 = false ∧ k2 = true) ∨ (k1 = false ∧ k2 = false ∧ k3 = true) ∨ (k1 = false ∧ k2 = false ∧ k3 = false ∧ k4 = true) := by
                                  cases k1 <;> cases k2 <;> cases k3 <;> cases k4 <;> simp at hk ⊢
                                have HXK : Hid (X = if 1024 < g.length then er4 414 else (m, g, 0)) := by
                                  show _ = _
                                  rw [unhide HX]
                                  simp only [hk]
                                  rfl
                                clear hk HX
                                by_cases hg4 : 1024 < g.length
                                · have HX : Hid (X = er4 414) := by show _ = _; rw [unhide HXK, if_pos hg4]
                                  have hg5 : (1024 : Int) < (g.length : Int) := by omega
                                  clear HXK hg4
                                  rcases hk' with r1 | ⟨r1, r2⟩ | ⟨r1, r2, r3⟩ | ⟨r1, r2, r3, r4⟩
                                  · subst r1
                                    go_wp2
                                    go_ret3
                                    exact ⟨by rw [unhide HX]; rfl, HB7⟩
                                  · subst r1 r2
                                    go_wp2
                                    go_ret3
                                    exact ⟨by rw [unhide HX]; rfl, HB7⟩
                                  · subst r1 r2 r3
                                    go_wp2
                                    go_ret3
                                    exact ⟨by rw [unhide HX]; rfl, HB7⟩
                                  · subst r1 r2 r3 r4
                                    go_wp2
                                    go_ret3
                                    exact ⟨by rw [unhide HX]; rfl, HB7⟩
                                · have HX : Hid (X = (m, g, 0)) := by show _ = _; rw [unhide HXK, if_neg hg4]
                                  have hg5 : ¬ (1024 : Int) < (g.length : Int) := by omega
                                  clear HXK hg4
                                  rcases hk' with r1 | ⟨r1, r2⟩ | ⟨r1, r2, r3⟩ | ⟨r1, r2, r3, r4⟩
                                  · subst r1
                                    go_wp2
                                    go_ret3
                                    exact ⟨by rw [unhide HX]; rfl, HB7⟩
                                  · subst r1 r2
                                    go_wp2
                                    go_ret3
                                    exact ⟨by rw [unhide HX]; rfl, HB7⟩
                                  · subst r1 r2 r3
                                    go_wp2
                                    go_ret3
                                    exact ⟨by rw [unhide HX]; rfl, HB7⟩
                                  · subst r1 r2 r3 r4
                                    go_wp2
                                    go_ret3
                                    exact ⟨by rw [unhide HX]; rfl, HB7⟩
                        · have e46 : ((v6.toNat : Int) != 46) = true := by rw [bne_iff_ne]; intro h; exact h46 (UInt8.toNat_inj.1 (by show v6.toNat = 46; omega))
                          rw [decide_eq_false h46] at HX
                          clear h46
                          go_wp2
                          go_ret3
                          exact ⟨by rw [unhide HX]; rfl, HB6⟩
                  · have e8 : ((v.length : Int) != 8) = true := by rw [bne_iff_ne]; omega
                    rw [decide_eq_false h8] at HX
                    clear h8 HIX
                    go_wp2
                    go_ret3
                    exact ⟨by rw [unhide HX]; rfl, HB5⟩
          · have ec : ((c : Int) != (v.length : Int)) = true := by rw [bne_iff_ne]; omega
            rw [decide_eq_false hc] at HX
            clear hc
            go_wp2
            go_ret3
            exact ⟨by rw [unhide HX]; rfl, HB3⟩
#print axioms line8
end Go.Proofs.YtonaekkenggmbaaGreatDoor
end
section
set_option linter.unusedVariables false
set_option maxRecDepth 1000000
namespace Go.Proofs.YtonaekkenggmbaaGreatDoor
open Go.RowKit

/-- One line's field. -/
def fd8 (s : List UInt8) : Option Hd :=
  if (decide (etM 4 s < 1) || (decide (64 < etM 4 s) || (decide (etM 4 s = s.length) || (!decide (s.getD (etM 4 s) 0 = 58) || !alM (trm (s.drop (etM 4 s + 1))) 0 8192 6)))) = true then none else some (sm (s.take (etM 4 s)), trm (s.drop (etM 4 s + 1)))
def fr8 : List (List UInt8) → List Hd → List Hd × Nat
  | [], acc => (acc, 0)
  | l :: L, acc => if acc.length = 32 then ([], 431) else match fd8 l with | some h => fr8 L (acc ++ [h]) | none => ([], 400)
theorem stp_apph (w : World) {ops : Array Oper} {o : Oper} {a : Act} {K : Act → World → Prop} {Q : Exit → Act → World → Prop} {E : Prop} (hgd : o.guard = none) (s x : Operand)
    (ho : o.op = .call { callee := .builtin .append, args := #[s, x], argTypes := #[37, 37] })
    (base : Nat) (a1 : Option Addr) (cap1 : Nat) (l1 : List Hd) (hs : a.eval s = .slice a1 l1.length cap1) (hown : OwnH w base a1 cap1 l1)
    (b cap2 : Nat) (n : Hd) (hx : a.eval x = .slice (some ⟨b, 0, none⟩) 1 cap2) (hs0 : w.cell? ⟨b, 0, none⟩ = some (.string (str n.1))) (hs1 : w.cell? ⟨b, 1, none⟩ = some (.string (str n.2)))
    (hlen : l1.length ≤ 100000000) (hbase : base ≤ w.heap.size)
    (h : ∀ a' cap' r w', Hid (r = l1 ++ [n]) → Hid (OwnH w' base a' cap' r) → Hid (w.grownBy w' (blk a1)) → K (a.put o.dst (.slice a' r.length cap')) w') :
    if Region.wanted o (yielded ops a.tmps) = true then Oper.wp Tryz.prog o a w K Q else E := by
  refine stp_of_list hgd (wp_apph w hgd s x ho base a1 cap1 l1 hs hown b cap2 n hx hs0 hs1 hlen hbase ?_)
  intro a' cap' r w' h1 h2 h3
  exact ⟨rfl, h a' cap' r w' h1 h2 h3⟩
/-- What two calls leave, and a block more. -/
theorem two_hd {w w3 wa wb : World} {a : Option Addr} {c : Nat} {H : List Hd} (hb : Below w.heap.size w w3) (ho : OwnH w3 w.heap.size a c H) (h1 : Below w3.drew.heap.size w3.drew wa) (h2 : Below wa.heap.size wa wb) (m t : List UInt8) :
    OwnH (wb.alloc (.cells #[.string (str m), .string (str t)] 49)) w.heap.size a c H ∧ w.heap.size ≤ (wb.alloc (.cells #[.string (str m), .string (str t)] 49)).heap.size ∧ (wb.alloc (.cells #[.string (str m), .string (str t)] 49)).cell? ⟨wb.heap.size, 0, none⟩ = some (.string (str m)) ∧ (wb.alloc (.cells #[.string (str m), .string (str t)] 49)).cell? ⟨wb.heap.size, 1, none⟩ = some (.string (str t)) ∧ (∀ w', (wb.alloc (.cells #[.string (str m), .string (str t)] 49)).grownBy w' (blk a) → Below w.heap.size w w') := by
  have e0 : Below w3.heap.size w3 w3.drew := (Below.refl _ _).drew
  have e1 : w3.drew.heap.size = w3.heap.size := rfl
  have z1 := hb.size
  have z2 := h1.size
  have z3 := h2.size
  have e2 : Below wb.heap.size wb (wb.alloc (.cells #[.string (str m), .string (str t)] 49)) := (Below.refl _ _).alloc (Nat.le_refl _) _
  have hB : Below w.heap.size w wb := ((hb.trans (e0.mono z1)).trans (h1.mono (by omega))).trans (h2.mono (by omega))
  refine ⟨(((ho.below e0 (Nat.le_refl _)).below h1 (Nat.le_refl _)).below h2 (Nat.le_refl _)).below e2 (Nat.le_refl _), Nat.le_trans hB.size e2.size, by rw [cell_of_row _ _ _ _ _ _ (heap_alloc_new wb _)]; rfl, by rw [cell_of_row _ _ _ _ _ _ (heap_alloc_new wb _)]; rfl, fun w' hg => ?_⟩
  exact below_grown (a := a) (hB.alloc hB.size _) hg (Nat.le_refl _) (fun k hk => (ho.lt k hk).1)
theorem trm_len8 (s : List UInt8) : (trm s).length ≤ s.length := trm_len s
set_option maxHeartbeats 4000000 in
theorem fields8 (w : World) (p : Option Addr) (cp : Nat) (Ls : List (List UInt8)) (hN : NsO w p Ls) (hl : Ls.length ≤ 1000000) (hs : ∀ x ∈ Ls, x.length ≤ 1000000) :
    Calls Tryz.prog 75 #[.slice p Ls.length cp] w fun e w' => ∃ a c H, ∃ st : Nat, e = .returned (.tuple #[.slice a H.length c, .int .i64 (st : Int)]) ∧ Hid ((H, st) = fr8 Ls []) ∧ Hid (HdR w' a H ∧ ∀ k, blk a = some k → w.heap.size ≤ k) ∧ Hid (Below w.heap.size w w') := by
  obtain ⟨X, hX⟩ : ∃ X, X = fr8 Ls [] := ⟨_, rfl⟩
  rw [← hX]
  have HX0 : Hid (X = fr8 (Ls.drop 0) []) := hX
  have HNN := hide hN
  have HSS := hide hs
  clear hX hN hs
  go_enter Tryz.func75, Tryz.ntmps75
  go_wp2
  go_loopw [4, 10] (fun v i wr => ∃ (k : Nat) (a : Option Addr) (c : Nat) (H : List Hd), k ≤ Ls.length ∧ H.length ≤ 32 ∧ v = .slice a H.length c ∧ i = .int .i64 (k : Int) ∧ Hid (k = H.length) ∧ Hid (X = fr8 (Ls.drop k) H) ∧ Hid (OwnH wr w.heap.size a c H) ∧ Hid (Below w.heap.size w wr)) (fun _ i _ => Ls.length - (intOf i).toNat)
  case atStart => exact ⟨0, none, 0, [], Nat.zero_le _, by decide, rfl, rfl, rfl, HX0, OwnH.nil _ _, Below.refl _ _⟩
  case round =>
    clear HX0
    obtain ⟨k, a, c, H, hk, hH, rfl, rfl, HKH, HX, HO, HB⟩ := hrel
    by_cases hlt : k < Ls.length
    · have hlt' : (k : Int) < (Ls.length : Int) := by omega
      obtain ⟨s, hsk⟩ : ∃ s, Ls[k]? = some s := ⟨_, List.getElem?_eq_getElem hlt⟩
      obtain ⟨b, off, hpe, hcell⟩ := ((unhide HNN).below (unhide HB) (Nat.le_refl _)).mem (by intro e; subst e; simp at hsk)
      subst hpe
      have hck := hcell k s hsk
      have hsl : s.length ≤ 1000000 := unhide HSS s (List.mem_of_getElem? hsk)
      have hdr : Ls.drop k = s :: Ls.drop (k + 1) := by
        rw [List.drop_eq_getElem_cons hlt]
        congr 1
        have := List.getElem?_eq_getElem hlt
        rw [this] at hsk; exact Option.some.inj hsk
      have hX := unhide HX
      rw [hdr] at hX
      simp only [fr8] at hX
      have HXX := hide hX
      clear hcell hsk hdr hX HX
      by_cases h32 : H.length = 32
      · have HX : Hid (X = ([], 431)) := by show _ = _; rw [unhide HXX, if_pos h32]
        have hk32 : (32 : Int) ≤ (k : Int) := by have := unhide HKH; omega
        clear HXX h32
        go_wp2
        go_ret2
        exact ⟨none, 0, [], 431, rfl, hide (unhide HX).symm, ⟨⟨fun h => absurd rfl h, Nat.zero_le _⟩, fun k hk => by simp [blk] at hk⟩, HB⟩
      · have hk32 : ¬ (32 : Int) ≤ (k : Int) := by have := unhide HKH; omega
        have hX := unhide HXX
        rw [if_neg h32] at hX
        have z1 : (str s).size = s.length := str_size s
        have HE : Hid (Calls Tryz.prog 86 #[.string (str s), .int .i64 4] wr fun e w' => e = .returned (.int .i64 (etM 4 s : Int)) ∧ Hid (Below wr.heap.size wr w')) := eat_any s 4 (by decide) wr hsl
        have hnl := etM_le 4 s
        unfold fd8 at hX
        generalize etM 4 s = n at *
        have HX := hide hX
        clear hX HXX
        go_wp2_with fail
        refine (unhide HE).mono ?_
        rintro e w1 ⟨rfl, HB1'⟩
        have HB1 : Hid (Below w.heap.size w w1) := (unhide HB).trans ((unhide HB1').mono (unhide HB).size)
        have HO1 := hide ((unhide HO).below (unhide HB1') (Nat.le_refl _))
        clear HE HB HO HB1' hck
        by_cases h1 : n < 1
        · have f1 : (n : Int) < 1 := by omega
          rw [decide_eq_true h1] at HX
          clear h1 hnl
          go_wp2
          go_ret2
          exact ⟨none, 0, [], 400, rfl, hide (unhide HX).symm, ⟨⟨fun h => absurd rfl h, Nat.zero_le _⟩, fun k hk => by simp [blk] at hk⟩, HB1⟩
        · have f1 : ¬ (n : Int) < 1 := by omega
          rw [decide_eq_false h1] at HX
          by_cases h2 : 64 < n
          · have f2 : (64 : Int) < (n : Int) := by omega
            rw [decide_eq_true h2] at HX
            clear h2 hnl h1
            go_wp2
            go_ret2
            exact ⟨none, 0, [], 400, rfl, hide (unhide HX).symm, ⟨⟨fun h => absurd rfl h, Nat.zero_le _⟩, fun k hk => by simp [blk] at hk⟩, HB1⟩
          · have f2 : ¬ (64 : Int) < (n : Int) := by omega
            rw [decide_eq_false h2] at HX
            by_cases h3 : n = s.length
            · have f3 : ((n : Int) == (s.length : Int)) = true := by rw [beq_iff_eq]; omega
              rw [decide_eq_true h3] at HX
              clear h3 hnl h1 h2
              go_wp2
              go_ret2
              exact ⟨none, 0, [], 400, rfl, hide (unhide HX).symm, ⟨⟨fun h => absurd rfl h, Nat.zero_le _⟩, fun k hk => by simp [blk] at hk⟩, HB1⟩
            · have f3 : ((n : Int) == (s.length : Int)) = false := by rw [beq_eq_false_iff_ne]; omega
              rw [decide_eq_false h3] at HX
              have hn1 : n + 1 ≤ s.length := by omega
              obtain ⟨y, hy⟩ : ∃ y, s.getD n 0 = y := ⟨_, rfl⟩
              have hix : ∀ w, (Instr.index 9 (.string (str s)) (.int .i64 (n : Int))).run Tryz.prog w = .ok (.int .u8 (y.toNat : Int)) w := fun w => by rw [← hy]; exact run_ixs w s n (by omega)
              rw [hy] at HX
              clear hy h3 h1 h2 hnl
              by_cases h4 : y = 58
              · have f4 : ((y.toNat : Int) != 58) = false := by rw [bne_eq_false_iff_eq, h4]; rfl
                rw [decide_eq_true h4] at HX
                clear h4
                obtain ⟨nm, hnm⟩ : ∃ nm, nm = s.take n := ⟨_, rfl⟩
                obtain ⟨vl, hvl⟩ : ∃ vl, vl = s.drop (n + 1) := ⟨_, rfl⟩
                have x1 : (str s).extract 0 n = str nm := by rw [hnm]; exact cut_to s n
                have x2 : (str s).extract (n + 1) s.length = str vl := by rw [hvl]; exact cut_from s (n + 1)
                have hnml : nm.length ≤ 1000000 := by rw [hnm]; simp; omega
                have hvll : vl.length ≤ 1000000 := by rw [hvl]; simp; omega
                rw [← hnm, ← hvl] at HX
                have hi0 : (0 : Int) ≤ (n : Int) := by omega
                have hi1 : (n : Int) ≤ (s.length : Int) := by omega
                have hi2 : (n : Int) + 1 ≤ (s.length : Int) := by omega
                have hw1 : IntKind.i64.wrap ((n : Int) + 1) = (n : Int) + 1 := by rw [IntKind.wrap_i64]; omega
                clear hnm hvl
                have HTR : Hid (∀ w, Calls Tryz.prog 85 #[.string (str vl)] w fun e w' => e = .returned (.string (str (trm vl))) ∧ Hid (Below w.heap.size w w')) := fun w => trim8 vl w hvll
                have HSM : Hid (∀ w, Calls Tryz.prog 49 #[.string (str nm)] w fun e w' => e = .returned (.string (str (sm nm))) ∧ Hid (Below w.heap.size w w')) := fun w => rsmall8 nm w hnml
                have htl := trm_len8 vl
                generalize trm vl = t at *
                generalize sm nm = m at *
                have HAL : Hid (∀ w, Calls Tryz.prog 80 #[.string (str t), .int .i64 0, .int .i64 8192, .int .i64 6] w fun e w' => e = .returned (.bool (alM t 0 8192 6)) ∧ Hid (Below w.heap.size w w')) := fun w => all8_any t 0 8192 6 (by decide) w (by omega) (by decide) (by decide)
                generalize alM t 0 8192 6 = q at *
                go_wp2_with fail
                refine (unhide HTR _).mono ?_
                rintro e w2 ⟨rfl, HB2'⟩
                have HB2 : Hid (Below w.heap.size w w2) := (unhide HB1).trans ((unhide HB2').mono (unhide HB1).size)
                have HO2 := hide ((unhide HO1).below (unhide HB2') (Nat.le_refl _))
                clear HB1 HO1 HB2'
                go_wp2_with fail
                refine (unhide HAL _).mono ?_
                rintro e w3 ⟨rfl, HB3'⟩
                have HB3 : Hid (Below w.heap.size w w3) := (unhide HB2).trans ((unhide HB3').mono (unhide HB2).size)
                have HO3 := hide ((unhide HO2).below (unhide HB3') (Nat.le_refl _))
                clear HB2 HO2 HB3' HAL
                cases q with
                | false =>
                  go_wp2
                  go_ret2
                  exact ⟨none, 0, [], 400, rfl, hide (unhide HX).symm, ⟨⟨fun h => absurd rfl h, Nat.zero_le _⟩, fun k hk => by simp [blk] at hk⟩, HB3⟩
                | true =>
                  have HX2 : Hid (X = fr8 (Ls.drop (k + 1)) (H ++ [(m, t)])) := unhide HX
                  clear HX
                  go_upto_region 10 with fail
                  go_region_held3 (fun _ => True) (trivial) ((first
                    | (obtain ⟨p1, p2, p3, p4, p5⟩ := two_hd (unhide HB3) (unhide HO3) (unhide HBs) (unhide HBt) m t; refine stp_apph _ rfl _ _ rfl w.heap.size a c H rfl p1 wt.heap.size 1 (m, t) rfl p3 p4 (by omega) p2 ?_; intro a' cap' r' w' hr' ho' hg'; have HB4 := hide (p5 w' (unhide hg')))
                    | (obtain ⟨p1, p2, p3, p4, p5⟩ := two_hd (unhide HB3) (unhide HO3) (unhide HBt) (unhide HBs) m t; refine stp_apph _ rfl _ _ rfl w.heap.size a c H rfl p1 ws.heap.size 1 (m, t) rfl p3 p4 (by omega) p2 ?_; intro a' cap' r' w' hr' ho' hg'; have HB4 := hide (p5 w' (unhide hg')))
                    | (go_at_call 85; refine (unhide HTR _).mono ?_; rintro e wt ⟨rfl, HBt⟩)
                    | (go_at_call 49; refine (unhide HSM _).mono ?_; rintro e ws ⟨rfl, HBs⟩)))
                  have HX3 : Hid (X = fr8 (Ls.drop (k + 1)) r') := by show _ = _; rw [unhide hr']; exact unhide HX2
                  have hrl : r'.length ≤ 32 := by rw [unhide hr']; simp; omega
                  have HK2 : Hid (k + 1 = r'.length) := by show _ = _; rw [unhide hr']; have := unhide HKH; simp; omega
                  clear HX2 hr' hg'
                  go_wp2
                  go_roundw
                  case rel => exact ⟨k + 1, a', cap', r', by omega, hrl, rfl, by go_num, HK2, HX3, ho', HB4⟩
                  case measure => simp [intOf]; omega
              · have f4 : ((y.toNat : Int) != 58) = true := by rw [bne_iff_ne]; intro h; exact h4 (UInt8.toNat_inj.1 (by show y.toNat = 58; omega))
                rw [decide_eq_false h4] at HX
                clear h4
                go_wp2
                go_ret2
                exact ⟨none, 0, [], 400, rfl, hide (unhide HX).symm, ⟨⟨fun h => absurd rfl h, Nat.zero_le _⟩, fun k hk => by simp [blk] at hk⟩, HB1⟩
    · obtain rfl : k = Ls.length := by omega
      have HX2 : Hid (X = (H, 0)) := by
        have := unhide HX
        rw [List.drop_length] at this
        exact this
      clear hlt
      go_wp2
      go_ret2
      exact ⟨a, c, H, 0, rfl, hide (unhide HX2).symm, ⟨(unhide HO).hdR, fun k hk => ((unhide HO).lt k hk).1⟩, HB⟩
#print axioms fields8
end Go.Proofs.YtonaekkenggmbaaGreatDoor
end
