/-
  httpd: Write, an answer's bytes.
-/
import Derived.Test.YtonaekkenggmbaaGreatDoorPkHadsay
import Derived.Test.YtonaekkenggmbaaGreatDoorPkHadsbc
section
set_option linter.unusedVariables false
set_option maxRecDepth 1000000
namespace Go.Proofs.YtonaekkenggmbaaGreatDoor
open Go.RowKit

theorem Omg.low9 {w : World} {base B : Nat} {x : Option Addr} {k : Nat} {l : List UInt8} (h : Omg w base x k l) (hB : B ≤ base) : Omg w B x k l := by
  obtain ⟨b, cur, fz, e, h1, h2⟩ := h
  exact ⟨b, cur, fz, e, Nat.le_trans hB h1, h2⟩
/-- An answer's head, its bytes, and why there are none. -/
def awH (st : Int) (H : List Hd) (B : List UInt8) : List UInt8 := stL st ++ [13, 10] ++ H.flatMap hline ++ (if st = 101 then [] else hline (nCL, Lib.itoa (B.length : Int)))
def awE (st : Int) (H : List Hd) (B : List UInt8) : Nat :=
  if reM st = [] then 1 else if 32 ≤ H.length ∨ H.any noA = true then 80 else if 32768 < B.length ∨ (st = 101 ∧ 0 < B.length) then 81 else if 8192 < (awH st H B).length - 2 then 4 else 0
def awR (st : Int) (H : List Hd) (B : List UInt8) : List UInt8 := if awE st H B = 0 then awH st H B ++ [13, 10] ++ B else []
set_option maxHeartbeats 4000000 in
theorem write8 (st : Int) (h0 : -9223372036854775808 ≤ st) (h9 : st ≤ 9223372036854775807) (H : List Hd) (B : List UInt8) (hp bp : Option Addr) (hc bc : Nat) (w : World) (hP : P10 w) (h1 : HdR w hp H) (b1 : Bs w bp bc B) (hh : hsz H ≤ 262144) :
    Calls Tryz.prog 32 #[.agg #[.int .i64 st, .slice hp H.length hc, .slice bp B.length bc]] w fun e w' => ∃ a c r, ∃ E : Nat, e = .returned (.tuple #[.slice a r.length c, .int .i64 (E : Int)]) ∧ Hid (E = awE st H B ∧ r = awR st H B) ∧ Hid (Bs w' a c r) ∧ Hid (Below w.heap.size w w') := by
  obtain ⟨o, ho⟩ : ∃ o, o = Obj.cells #[.int .i64 st, .slice hp H.length hc, .slice bp B.length bc] 58 := ⟨_, rfl⟩
  have hbU : Below w.heap.size w (w.alloc o) := (Below.refl _ _).alloc (Nat.le_refl _) _
  have hrU : (w.alloc o).heap[w.heap.size]? = some (.cells #[.int .i64 st, .slice hp H.length hc, .slice bp B.length bc] 58 (0, 0)) := by rw [ho]; exact heap_alloc_new w _
  obtain ⟨U, hU⟩ : ∃ U, U = w.alloc o := ⟨_, rfl⟩
  rw [← hU] at hbU hrU
  rw [ho] at hU
  have u0 : U.cell? ⟨w.heap.size, 0, none⟩ = some (.int .i64 st) := cell_of_row _ _ _ _ _ _ hrU
  have u1 : U.cell? ⟨w.heap.size, 1, none⟩ = some (.slice hp H.length hc) := cell_of_row _ _ _ _ _ _ hrU
  have u2 : U.cell? ⟨w.heap.size, 2, none⟩ = some (.slice bp B.length bc) := cell_of_row _ _ _ _ _ _ hrU
  have hHl : H.length ≤ 32768 := by have := hsz_len H; omega
  have HSS : Hid (HdS H) := fun t d hd => by have := hsz_mem H d (List.mem_of_getElem? hd); omega
  have hBl := Nat.le_trans b1.le b1.most
  unfold maxLen at hBl
  have HHU : Hid (HdR w hp H ∧ Bs w bp bc B) := ⟨h1, b1⟩
  have HBU := hide hbU
  have HRU := hide hrU
  have HP := hide hP
  have HRE : Hid (∀ w, Calls Tryz.prog 28 #[.int .i64 st] w fun e w' => e = .returned (.string (str (reM st))) ∧ w' = w) := fun w => reason_any st w
  have HST := hide (fun (wx : World) (hx : P10 wx) => stl_any st h0 h9 wx hx)
  have HLL := hide (stL_len st h0 h9)
  clear ho hbU hrU hP h1 b1 o
  go_enter Tryz.func32, Tryz.ntmps32
  go_upto_region 1 with fail
  rw [← hU]
  clear hU
  by_cases hre : reM st = []
  · have f1 : (str (reM st)).toList.isEmpty = true := by rw [toList_str, hre]; rfl
    have HM : Hid (1 = awE st H B ∧ ([] : List UInt8) = awR st H B) := by
      have e : awE st H B = 1 := by unfold awE; rw [if_pos hre]
      exact ⟨e.symm, by unfold awR; rw [e]; rfl⟩
    generalize reM st = R at *
    clear hre HST HLL
    go_wp2_with fail
    refine (unhide HRE _).mono ?_
    rintro e U ⟨rfl, rfl⟩
    go_wp2_with fail
    go_ret2
    exact ⟨none, 0, [], 1, rfl, HM, ⟨fun h => absurd rfl h, Nat.zero_le _, Nat.zero_le _, fun _ => rfl⟩, HBU⟩
  have HE1 := hide hre
  have f1 : (str (reM st)).toList.isEmpty = false := by rw [toList_str]; cases h : reM st with | nil => exact absurd h hre | cons a l => rfl
  generalize hR : reM st = R at HRE f1
  clear hR hre
  go_wp2_with fail
  refine (unhide HRE _).mono ?_
  rintro e U ⟨rfl, rfl⟩
  clear HRE
  by_cases h32 : 32 ≤ H.length
  · have h32' : (32 : Int) ≤ (H.length : Int) := by omega
    have HM : Hid (80 = awE st H B ∧ ([] : List UInt8) = awR st H B) := by
      have e : awE st H B = 80 := by unfold awE; rw [if_neg (unhide HE1), if_pos (.inl h32)]
      exact ⟨e.symm, by unfold awR; rw [e]; rfl⟩
    clear h32 HST HLL
    go_wp2_with fail
    go_ret2
    exact ⟨none, 0, [], 80, rfl, HM, ⟨fun h => absurd rfl h, Nat.zero_le _, Nat.zero_le _, fun _ => rfl⟩, HBU⟩
  have h32' : ¬ (32 : Int) ≤ (H.length : Int) := by omega
  have HCO := hide (con_h hp hc H U ((unhide HHU).1.below (unhide HBU) (Nat.le_refl _)) (unhide HSS) (by omega))
  generalize hA : H.any noA = A at HCO
  go_wp2_with fail
  refine (unhide HCO).mono ?_
  rintro e U2 ⟨rfl, HB2⟩
  have HBU2 : Hid (Below w.heap.size w U2) := (unhide HBU).trans ((unhide HB2).mono (unhide HBU).size)
  have HRU2 : Hid (U2.heap[w.heap.size]? = some (.cells #[.int .i64 st, .slice hp H.length hc, .slice bp B.length bc] 58 (0, 0))) := ((unhide HB2).block _ (Array.getElem?_eq_some_iff.1 (unhide HRU)).1).trans (unhide HRU)
  clear HCO u0 u1 u2 HB2 HBU HRU
  have u0 : U2.cell? ⟨w.heap.size, 0, none⟩ = some (.int .i64 st) := cell_of_row _ _ _ _ _ _ (unhide HRU2)
  have u1 : U2.cell? ⟨w.heap.size, 1, none⟩ = some (.slice hp H.length hc) := cell_of_row _ _ _ _ _ _ (unhide HRU2)
  have u2 : U2.cell? ⟨w.heap.size, 2, none⟩ = some (.slice bp B.length bc) := cell_of_row _ _ _ _ _ _ (unhide HRU2)
  cases A with
  | true =>
    have HM : Hid (80 = awE st H B ∧ ([] : List UInt8) = awR st H B) := by
      have e : awE st H B = 80 := by unfold awE; rw [if_neg (unhide HE1), if_pos (.inr hA)]
      exact ⟨e.symm, by unfold awR; rw [e]; rfl⟩
    clear h32 hA HST HLL
    go_wp2_with fail
    go_ret2
    exact ⟨none, 0, [], 80, rfl, HM, ⟨fun h => absurd rfl h, Nat.zero_le _, Nat.zero_le _, fun _ => rfl⟩, HBU2⟩
  | false =>
  have HE2 : Hid (¬ (32 ≤ H.length ∨ H.any noA = true)) := fun h => h.elim h32 (fun e => by rw [hA] at e; cases e)
  clear h32 hA
  by_cases hB : 32768 < B.length
  · have hB' : (32768 : Int) < (B.length : Int) := by omega
    have HM : Hid (81 = awE st H B ∧ ([] : List UInt8) = awR st H B) := by
      have e : awE st H B = 81 := by unfold awE; rw [if_neg (unhide HE1), if_neg (unhide HE2), if_pos (.inl hB)]
      exact ⟨e.symm, by unfold awR; rw [e]; rfl⟩
    clear hB HST HLL
    go_wp2_with fail
    go_ret2
    exact ⟨none, 0, [], 81, rfl, HM, ⟨fun h => absurd rfl h, Nat.zero_le _, Nat.zero_le _, fun _ => rfl⟩, HBU2⟩
  have hB' : ¬ (32768 : Int) < (B.length : Int) := by omega
  have HB32 : Hid (B.length ≤ 32768) := by show _ ≤ _; omega
  have HU3 : Hid (∀ wx, Below U2.heap.size U2 wx → Below w.heap.size w wx ∧ wx.heap[w.heap.size]? = some (.cells #[.int .i64 st, .slice hp H.length hc, .slice bp B.length bc] 58 (0, 0))) := fun wx hx => ⟨(unhide HBU2).trans (hx.mono (unhide HBU2).size), (hx.block _ (Array.getElem?_eq_some_iff.1 (unhide HRU2)).1).trans (unhide HRU2)⟩
  by_cases h101 : st = 101
  · subst h101
    by_cases hB0 : 0 < B.length
    · have hB0' : (0 : Int) < (B.length : Int) := by omega
      have HM : Hid (81 = awE 101 H B ∧ ([] : List UInt8) = awR 101 H B) := by
        have e : awE 101 H B = 81 := by unfold awE; rw [if_neg (unhide HE1), if_neg (unhide HE2), if_pos (.inr ⟨rfl, hB0⟩)]
        exact ⟨e.symm, by unfold awR; rw [e]; rfl⟩
      clear hB hB0 HST HLL
      go_wp2_with fail
      go_ret2
      exact ⟨none, 0, [], 81, rfl, HM, ⟨fun h => absurd rfl h, Nat.zero_le _, Nat.zero_le _, fun _ => rfl⟩, HBU2⟩
    · have hB0' : ¬ (0 : Int) < (B.length : Int) := by omega
      have HE3 : Hid (¬ 32768 < B.length ∧ ¬ 0 < B.length) := ⟨hB, hB0⟩
      clear hB hB0
      go_wp2_with fail
      refine (unhide HST _ ((unhide HP).below (unhide HBU2))).mono ?_
      rintro e w1 ⟨rfl, HB1⟩
      have hU1 := unhide HU3 w1 (unhide HB1)
      have hsl : (stL 101).length ≤ 71 := unhide HLL
      have e1 : str (stL 101) ++ (⟨#[13, 10]⟩ : ByteArray) = str (stL 101 ++ [13, 10]) := str_app _ [13, 10]
      have s1 : (str (stL 101)).size = (stL 101).length := str_size _
      have hq5 : (stL 101 ++ [13, 10]).length ≤ 73 := by simp; omega
      have HQ5 : Hid (∀ k, stL 101 ++ [13, 10] ++ (H.take k).flatMap hline = (stL 101 ++ [13, 10]) ++ (H.take k).flatMap hline) := fun _ => rfl
      have HAW : Hid (awH 101 H B = (stL 101 ++ [13, 10]) ++ H.flatMap hline ++ ([])) := by show _ = _; unfold awH; rw [if_pos rfl]
      clear HST HQ5 HLL
      generalize stL 101 ++ [13, 10] = q5 at *
      generalize stL 101 = q4 at *
      obtain ⟨V, c, hcv, hbV, hsV, hOV⟩ := to_omg q5 w1 (by omega)
      have hz1 : w.heap.size < w1.heap.size := (Array.getElem?_eq_some_iff.1 hU1.2).1
      have hwV : Below w.heap.size w V := hU1.1.trans (hbV.mono hU1.1.size)
      have HRV : Hid (V.heap[w.heap.size]? = some (.cells #[.int .i64 101, .slice hp H.length hc, .slice bp B.length bc] 58 (0, 0))) := (hbV.block _ hz1).trans hU1.2
      have v1 : V.cell? ⟨w.heap.size, 1, none⟩ = some (.slice hp H.length hc) := cell_of_row _ _ _ _ _ _ (unhide HRV)
      obtain ⟨bw, hbw⟩ : ∃ bw, bw = w1.heap.size := ⟨_, rfl⟩
      rw [← hbw] at hcv hOV
      have HOV : Hid (Omg V (w.heap.size + 1) (some ⟨bw, 0, none⟩) c q5) := hOV.low9 (by rw [hbw]; exact hz1)
      have HWV := hide hwV
      have HHV : Hid (HdR w hp H ∧ Bs w bp bc B ∧ w.heap.size + 1 < V.heap.size) := ⟨(unhide HHU).1, (unhide HHU).2, by omega⟩
      clear hbw hbV hsV hOV hwV hU1 hz1 HHU HBU2 HRU2 HU3 u0 u1 u2
      go_wp2_with fail
      clear hcv
      go_loopw [4, 46] (fun v i wr => ∃ (b c : Nat) (r : List UInt8) (k : Nat), v = .slice (some ⟨b, 0, none⟩) r.length c ∧ i = .int .i64 (k : Int) ∧ k ≤ H.length ∧ Hid (r = q5 ++ (H.take k).flatMap hline) ∧ Hid (Omg wr (w.heap.size + 1) (some ⟨b, 0, none⟩) c r) ∧ Hid (Below (w.heap.size + 1) V wr)) (fun _ i _ => H.length - (intOf i).toNat)
      case atStart => exact ⟨bw, c, q5, 0, rfl, rfl, Nat.zero_le _, by show _ = _; simp, HOV, Below.refl _ _⟩
      case round =>
        obtain ⟨b, c, r, k, rfl, rfl, hk, HR, HO, HB⟩ := hrel
        have HBw : Hid (Below w.heap.size w wr) := (unhide HWV).trans ((unhide HB).mono (by omega))
        have HSR : Hid (w.heap.size + 1 < wr.heap.size) := Nat.lt_of_lt_of_le (unhide HHV).2.2 (unhide HB).size
        have hrl : r.length ≤ 73 + 262144 := by
          rw [unhide HR, List.length_append]
          have := hl_len (H.take k)
          have := hsz_take H k
          omega
        by_cases hlt : k < H.length
        · have hlt' : (k : Int) < (H.length : Int) := by omega
          obtain ⟨d, hd⟩ : ∃ d, H[k]? = some d := ⟨_, List.getElem?_eq_getElem hlt⟩
          obtain ⟨g, off, hpe, hcs⟩ := ((unhide HHV).1.below (unhide HBw) (Nat.le_refl _)).mem (by intro e; subst e; simp at hd)
          subst hpe
          obtain ⟨c0, c1⟩ := hcs k d hd
          have hdm := hsz_mem H d (List.mem_of_getElem? hd)
          have HD := hide (hl_step H k d hd)
          have HLT := hide hlt
          clear hcs hd
          obtain ⟨x, y⟩ := d
          simp only at c0 c1 hdm
          have hsum : r.length + x.length + y.length + 4 ≤ 140737488355328 := by omega
          have hbA : Below wr.heap.size wr (wr.alloc (.cells #[.string (str x), .string (str y)] 49)) := (Below.refl _ _).alloc (Nat.le_refl _) _
          have HAP := hide (appendHeader_any b c r (x, y) (w.heap.size + 1) (wr.alloc (.cells #[.string (str x), .string (str y)] 49)) ((unhide HO).below hbA (Nat.le_refl _)) (by have := unhide HSR; simp; omega) hsum (by simp only; omega) (by simp only; omega))
          have HBA := hide hbA
          clear hbA
          go_wp2_with fail
          refine (unhide HAP).mono ?_
          rintro e w2 ⟨b2, c2, r2, rfl, HR2, HO2, HB2⟩
          clear HAP
          go_wp2_with fail
          go_roundw
          case rel =>
            have := unhide HLT
            refine ⟨b2, c2, r2, k + 1, rfl, by go_num, by omega, ?_, HO2, ?_⟩
            · show _ = _
              rw [unhide HR2, unhide HR, unhide HD, List.append_assoc]
            · exact (unhide HB).trans (((unhide HBA).mono (Nat.le_of_lt (unhide HSR))).trans (unhide HB2))
          case measure => have := unhide HLT; simp [intOf]; omega
        · have hlt' : ¬ (k : Int) < (H.length : Int) := by omega
          obtain rfl : k = H.length := by omega
          have HR' : Hid (r = q5 ++ H.flatMap hline) := by have := unhide HR; rw [List.take_length] at this; exact this
          have HRWr := hide (((unhide HB).block w.heap.size (by omega)).trans (unhide HRV))
          have t0 : wr.cell? ⟨w.heap.size, 0, none⟩ = some (.int .i64 101) := cell_of_row _ _ _ _ _ _ (unhide HRWr)
          have t2 : wr.cell? ⟨w.heap.size, 2, none⟩ = some (.slice bp B.length bc) := cell_of_row _ _ _ _ _ _ (unhide HRWr)
          clear hlt HR v1
          have HRx : Hid (r = awH 101 H B) := by rw [unhide HAW, ← unhide HR', List.append_nil]; exact rfl
          have HVx := HB
          have HOx := HO
          clear HR' HAW
          go_upto_region 15 with fail

          have hrlx : (r.length : Int) - 2 = ((r.length : Int) - 2) := rfl
          clear hrlx
          have HWx : Hid (Below w.heap.size w wr) := (unhide HWV).trans ((unhide HVx).mono (by omega))
          have HSx : Hid (w.heap.size + 1 < wr.heap.size) := Nat.lt_of_lt_of_le (unhide HHV).2.2 (unhide HVx).size
          have HRWx := hide (((unhide HVx).block w.heap.size (by omega)).trans (unhide HRV))
          have vx : wr.cell? ⟨w.heap.size, 2, none⟩ = some (.slice bp B.length bc) := cell_of_row _ _ _ _ _ _ (unhide HRWx)
          by_cases hlg : 8192 < r.length - 2
          · have hlg' : (8192 : Int) < (r.length : Int) - 2 := by omega
            have HM : Hid (4 = awE 101 H B ∧ ([] : List UInt8) = awR 101 H B) := by
              have e : awE 101 H B = 4 := by
                unfold awE
                rw [if_neg (unhide HE1), if_neg (unhide HE2), if_neg (fun h => h.elim (unhide HE3).1 (fun e => (unhide HE3).2 e.2)), if_pos (by rw [← unhide HRx]; exact hlg)]
              exact ⟨e.symm, by unfold awR; rw [e]; rfl⟩
            clear hlg
            go_wp2_with fail
            go_ret2
            exact ⟨none, 0, [], 4, rfl, HM, ⟨fun h => absurd rfl h, Nat.zero_le _, Nat.zero_le _, fun _ => rfl⟩, HWx⟩
          · have hlg' : ¬ (8192 : Int) < (r.length : Int) - 2 := by omega
            have HM : Hid (0 = awE 101 H B ∧ r ++ [13, 10] ++ B = awR 101 H B) := by
              have e : awE 101 H B = 0 := by
                unfold awE
                rw [if_neg (unhide HE1), if_neg (unhide HE2), if_neg (fun h => h.elim (unhide HE3).1 (fun e => (unhide HE3).2 e.2)), if_neg (by rw [← unhide HRx]; exact hlg)]
              exact ⟨e.symm, by unfold awR; rw [e, if_pos rfl, ← unhide HRx]⟩
            have hrl8 : r.length ≤ 8194 := by omega
            have HBsx := hide ((unhide HHV).2.1.below (unhide HWx) (Nat.le_refl _))
            clear hlg
            go_wp2_with (first
              | (at_builtin; refine wp_apptext _ rfl _ _ rfl (w.heap.size + 1) b c r rfl (unhide HOx) [13, 10] rfl ?g3x ?g4x ?_)
              | fail)
            case g3x => first | omega | (simp; omega)
            case g4x => exact Nat.le_of_lt (unhide HSx)
            intro b8 c8 r8 w8 HR8 HO8 hg8
            have hbl8 := (unhide HOx).lt b rfl
            have HV8 : Hid (Below (w.heap.size + 1) V w8) := (unhide HVx).grown (unhide hg8) (Nat.le_of_lt (unhide HSx)) (fun k hk => by cases hk; exact hbl8.1)
            have HW8 : Hid (Below w.heap.size w w8) := (unhide HWV).trans ((unhide HV8).mono (by omega))
            have HS8 : Hid (w.heap.size + 1 < w8.heap.size) := Nat.lt_of_lt_of_le (unhide HHV).2.2 (unhide HV8).size
            have hr8l : r8.length ≤ 8196 := by rw [unhide HR8]; simp; omega
            have HRW8 := hide (((unhide HV8).block w.heap.size (by omega)).trans (unhide HRV))
            have v8 : w8.cell? ⟨w.heap.size, 2, none⟩ = some (.slice bp B.length bc) := cell_of_row _ _ _ _ _ _ (unhide HRW8)
            have HBs8 := hide ((unhide HHV).2.1.below (unhide HW8) (Nat.le_refl _))
            clear hg8 hbl8
            go_wp2_with (first
              | (at_builtin; refine wp_appbytes _ rfl _ _ rfl (w.heap.size + 1) b8 c8 r8 rfl (unhide HO8) bp bc B rfl (unhide HBs8).row (unhide HBs8).nz ?h3x ?h4x ?_)
              | fail)
            case h3x => have := unhide HB32; omega
            case h4x => exact Nat.le_of_lt (unhide HS8)
            intro b9 c9 r9 w9 HR9 HO9 hg9
            have hbl9 := (unhide HO8).lt b8 rfl
            have HV9 : Hid (Below (w.heap.size + 1) V w9) := (unhide HV8).grown (unhide hg9) (Nat.le_of_lt (unhide HS8)) (fun k hk => by cases hk; exact hbl9.1)
            have HW9 : Hid (Below w.heap.size w w9) := (unhide HWV).trans ((unhide HV9).mono (by omega))
            have HM9 : Hid (0 = awE 101 H B ∧ r9 = awR 101 H B) := ⟨(unhide HM).1, by rw [← (unhide HM).2, unhide HR9, unhide HR8]⟩
            have HO9' := hide (unhide HO9).toBs
            clear hg9 hbl9
            go_wp2_with fail
            go_ret2
            exact ⟨_, c9, r9, 0, rfl, HM9, HO9', HW9⟩
  · have h101' : (st == 101) = false := by rw [beq_eq_false_iff_ne]; exact h101
    have h101b : (st != 101) = true := by rw [bne_iff_ne]; exact h101
    have HE3 : Hid (¬ (32768 < B.length ∨ (st = 101 ∧ 0 < B.length))) := fun h => h.elim hB (fun e => h101 e.1)
    have H101 := hide h101
    clear hB h101
    go_wp2_with fail
    refine (unhide HST _ ((unhide HP).below (unhide HBU2))).mono ?_
    rintro e w1 ⟨rfl, HB1⟩
    have hU1 := unhide HU3 w1 (unhide HB1)
    have hsl : (stL st).length ≤ 71 := unhide HLL
    have e1 : str (stL st) ++ (⟨#[13, 10]⟩ : ByteArray) = str (stL st ++ [13, 10]) := str_app _ [13, 10]
    have s1 : (str (stL st)).size = (stL st).length := str_size _
    have hq5 : (stL st ++ [13, 10]).length ≤ 73 := by simp; omega
    have HQ5 : Hid (∀ k, stL st ++ [13, 10] ++ (H.take k).flatMap hline = (stL st ++ [13, 10]) ++ (H.take k).flatMap hline) := fun _ => rfl
    have HAW : Hid (awH st H B = (stL st ++ [13, 10]) ++ H.flatMap hline ++ (hline (nCL, Lib.itoa (B.length : Int)))) := by show _ = _; unfold awH; rw [if_neg (unhide H101)]
    clear HST HQ5 HLL
    generalize stL st ++ [13, 10] = q5 at *
    generalize stL st = q4 at *
    obtain ⟨V, c, hcv, hbV, hsV, hOV⟩ := to_omg q5 w1 (by omega)
    have hz1 : w.heap.size < w1.heap.size := (Array.getElem?_eq_some_iff.1 hU1.2).1
    have hwV : Below w.heap.size w V := hU1.1.trans (hbV.mono hU1.1.size)
    have HRV : Hid (V.heap[w.heap.size]? = some (.cells #[.int .i64 st, .slice hp H.length hc, .slice bp B.length bc] 58 (0, 0))) := (hbV.block _ hz1).trans hU1.2
    have v1 : V.cell? ⟨w.heap.size, 1, none⟩ = some (.slice hp H.length hc) := cell_of_row _ _ _ _ _ _ (unhide HRV)
    obtain ⟨bw, hbw⟩ : ∃ bw, bw = w1.heap.size := ⟨_, rfl⟩
    rw [← hbw] at hcv hOV
    have HOV : Hid (Omg V (w.heap.size + 1) (some ⟨bw, 0, none⟩) c q5) := hOV.low9 (by rw [hbw]; exact hz1)
    have HWV := hide hwV
    have HHV : Hid (HdR w hp H ∧ Bs w bp bc B ∧ w.heap.size + 1 < V.heap.size) := ⟨(unhide HHU).1, (unhide HHU).2, by omega⟩
    clear hbw hbV hsV hOV hwV hU1 hz1 HHU HBU2 HRU2 HU3 u0 u1 u2
    go_wp2_with fail
    clear hcv
    go_loopw [4, 46] (fun v i wr => ∃ (b c : Nat) (r : List UInt8) (k : Nat), v = .slice (some ⟨b, 0, none⟩) r.length c ∧ i = .int .i64 (k : Int) ∧ k ≤ H.length ∧ Hid (r = q5 ++ (H.take k).flatMap hline) ∧ Hid (Omg wr (w.heap.size + 1) (some ⟨b, 0, none⟩) c r) ∧ Hid (Below (w.heap.size + 1) V wr)) (fun _ i _ => H.length - (intOf i).toNat)
    case atStart => exact ⟨bw, c, q5, 0, rfl, rfl, Nat.zero_le _, by show _ = _; simp, HOV, Below.refl _ _⟩
    case round =>
      obtain ⟨b, c, r, k, rfl, rfl, hk, HR, HO, HB⟩ := hrel
      have HBw : Hid (Below w.heap.size w wr) := (unhide HWV).trans ((unhide HB).mono (by omega))
      have HSR : Hid (w.heap.size + 1 < wr.heap.size) := Nat.lt_of_lt_of_le (unhide HHV).2.2 (unhide HB).size
      have hrl : r.length ≤ 73 + 262144 := by
        rw [unhide HR, List.length_append]
        have := hl_len (H.take k)
        have := hsz_take H k
        omega
      by_cases hlt : k < H.length
      · have hlt' : (k : Int) < (H.length : Int) := by omega
        obtain ⟨d, hd⟩ : ∃ d, H[k]? = some d := ⟨_, List.getElem?_eq_getElem hlt⟩
        obtain ⟨g, off, hpe, hcs⟩ := ((unhide HHV).1.below (unhide HBw) (Nat.le_refl _)).mem (by intro e; subst e; simp at hd)
        subst hpe
        obtain ⟨c0, c1⟩ := hcs k d hd
        have hdm := hsz_mem H d (List.mem_of_getElem? hd)
        have HD := hide (hl_step H k d hd)
        have HLT := hide hlt
        clear hcs hd
        obtain ⟨x, y⟩ := d
        simp only at c0 c1 hdm
        have hsum : r.length + x.length + y.length + 4 ≤ 140737488355328 := by omega
        have hbA : Below wr.heap.size wr (wr.alloc (.cells #[.string (str x), .string (str y)] 49)) := (Below.refl _ _).alloc (Nat.le_refl _) _
        have HAP := hide (appendHeader_any b c r (x, y) (w.heap.size + 1) (wr.alloc (.cells #[.string (str x), .string (str y)] 49)) ((unhide HO).below hbA (Nat.le_refl _)) (by have := unhide HSR; simp; omega) hsum (by simp only; omega) (by simp only; omega))
        have HBA := hide hbA
        clear hbA
        go_wp2_with fail
        refine (unhide HAP).mono ?_
        rintro e w2 ⟨b2, c2, r2, rfl, HR2, HO2, HB2⟩
        clear HAP
        go_wp2_with fail
        go_roundw
        case rel =>
          have := unhide HLT
          refine ⟨b2, c2, r2, k + 1, rfl, by go_num, by omega, ?_, HO2, ?_⟩
          · show _ = _
            rw [unhide HR2, unhide HR, unhide HD, List.append_assoc]
          · exact (unhide HB).trans (((unhide HBA).mono (Nat.le_of_lt (unhide HSR))).trans (unhide HB2))
        case measure => have := unhide HLT; simp [intOf]; omega
      · have hlt' : ¬ (k : Int) < (H.length : Int) := by omega
        obtain rfl : k = H.length := by omega
        have HR' : Hid (r = q5 ++ H.flatMap hline) := by have := unhide HR; rw [List.take_length] at this; exact this
        have HRWr := hide (((unhide HB).block w.heap.size (by omega)).trans (unhide HRV))
        have t0 : wr.cell? ⟨w.heap.size, 0, none⟩ = some (.int .i64 st) := cell_of_row _ _ _ _ _ _ (unhide HRWr)
        have t2 : wr.cell? ⟨w.heap.size, 2, none⟩ = some (.slice bp B.length bc) := cell_of_row _ _ _ _ _ _ (unhide HRWr)
        clear hlt HR v1
        have HIT := hide (itoa_any (B.length : Int) (by omega) (by omega) wr ((unhide HP).below (unhide HBw)))
        have hil := Lib.itoa_length_le (B.length : Int) (by omega) (by omega)
        generalize Lib.itoa (B.length : Int) = I at *
        go_wp2_with fail
        refine (unhide HIT).mono ?_
        rintro e w3 ⟨rfl, HB3⟩
        have HAP := hide (appendHeader_any b c r (nCL, I) (w.heap.size + 1) w3 ((unhide HO).below (unhide HB3) (Nat.le_refl _)) (by have := unhide HSR; have := (unhide HB3).size; omega) (by simp only; have : nCL.length = 14 := rfl; omega) (show nCL.length ≤ 1000000 by decide) (by simp only; omega))
        clear HIT
        go_wp2_with fail
        refine (unhide HAP).mono ?_
        rintro e w4 ⟨b4, c4, r4, rfl, HR4, HO4, HB4⟩
        clear HAP
        have HRy : Hid (r4 = awH st H B) := by rw [unhide HAW, unhide HR4, unhide HR']; exact rfl
        have HVy : Hid (Below (w.heap.size + 1) V w4) := ((unhide HB).trans ((unhide HB3).mono (Nat.le_of_lt (unhide HSR)))).trans (unhide HB4)
        have HOy := HO4
        have hr4l : r4.length ≤ 300000 := by rw [unhide HR4]; simp [hline, nCL]; omega
        clear HR' HAW HR4 HB3 HB4 HO
        go_upto_region 15 with fail

        have hrly : (r4.length : Int) - 2 = ((r4.length : Int) - 2) := rfl
        clear hrly
        have HWy : Hid (Below w.heap.size w w4) := (unhide HWV).trans ((unhide HVy).mono (by omega))
        have HSy : Hid (w.heap.size + 1 < w4.heap.size) := Nat.lt_of_lt_of_le (unhide HHV).2.2 (unhide HVy).size
        have HRWy := hide (((unhide HVy).block w.heap.size (by omega)).trans (unhide HRV))
        have vy : w4.cell? ⟨w.heap.size, 2, none⟩ = some (.slice bp B.length bc) := cell_of_row _ _ _ _ _ _ (unhide HRWy)
        by_cases hlg : 8192 < r4.length - 2
        · have hlg' : (8192 : Int) < (r4.length : Int) - 2 := by omega
          have HM : Hid (4 = awE st H B ∧ ([] : List UInt8) = awR st H B) := by
            have e : awE st H B = 4 := by
              unfold awE
              rw [if_neg (unhide HE1), if_neg (unhide HE2), if_neg (unhide HE3), if_pos (by rw [← unhide HRy]; exact hlg)]
            exact ⟨e.symm, by unfold awR; rw [e]; rfl⟩
          clear hlg
          go_wp2_with fail
          go_ret2
          exact ⟨none, 0, [], 4, rfl, HM, ⟨fun h => absurd rfl h, Nat.zero_le _, Nat.zero_le _, fun _ => rfl⟩, HWy⟩
        · have hlg' : ¬ (8192 : Int) < (r4.length : Int) - 2 := by omega
          have HM : Hid (0 = awE st H B ∧ r4 ++ [13, 10] ++ B = awR st H B) := by
            have e : awE st H B = 0 := by
              unfold awE
              rw [if_neg (unhide HE1), if_neg (unhide HE2), if_neg (unhide HE3), if_neg (by rw [← unhide HRy]; exact hlg)]
            exact ⟨e.symm, by unfold awR; rw [e, if_pos rfl, ← unhide HRy]⟩
          have hrl8 : r4.length ≤ 8194 := by omega
          have HBsy := hide ((unhide HHV).2.1.below (unhide HWy) (Nat.le_refl _))
          clear hlg
          go_wp2_with (first
            | (at_builtin; refine wp_apptext _ rfl _ _ rfl (w.heap.size + 1) b4 c4 r4 rfl (unhide HOy) [13, 10] rfl ?g3y ?g4y ?_)
            | fail)
          case g3y => first | omega | (simp; omega)
          case g4y => exact Nat.le_of_lt (unhide HSy)
          intro b8 c8 r8 w8 HR8 HO8 hg8
          have hbl8 := (unhide HOy).lt b4 rfl
          have HV8 : Hid (Below (w.heap.size + 1) V w8) := (unhide HVy).grown (unhide hg8) (Nat.le_of_lt (unhide HSy)) (fun k hk => by cases hk; exact hbl8.1)
          have HW8 : Hid (Below w.heap.size w w8) := (unhide HWV).trans ((unhide HV8).mono (by omega))
          have HS8 : Hid (w.heap.size + 1 < w8.heap.size) := Nat.lt_of_lt_of_le (unhide HHV).2.2 (unhide HV8).size
          have hr8l : r8.length ≤ 8196 := by rw [unhide HR8]; simp; omega
          have HRW8 := hide (((unhide HV8).block w.heap.size (by omega)).trans (unhide HRV))
          have v8 : w8.cell? ⟨w.heap.size, 2, none⟩ = some (.slice bp B.length bc) := cell_of_row _ _ _ _ _ _ (unhide HRW8)
          have HBs8 := hide ((unhide HHV).2.1.below (unhide HW8) (Nat.le_refl _))
          clear hg8 hbl8
          go_wp2_with (first
            | (at_builtin; refine wp_appbytes _ rfl _ _ rfl (w.heap.size + 1) b8 c8 r8 rfl (unhide HO8) bp bc B rfl (unhide HBs8).row (unhide HBs8).nz ?h3y ?h4y ?_)
            | fail)
          case h3y => have := unhide HB32; omega
          case h4y => exact Nat.le_of_lt (unhide HS8)
          intro b9 c9 r9 w9 HR9 HO9 hg9
          have hbl9 := (unhide HO8).lt b8 rfl
          have HV9 : Hid (Below (w.heap.size + 1) V w9) := (unhide HV8).grown (unhide hg9) (Nat.le_of_lt (unhide HS8)) (fun k hk => by cases hk; exact hbl9.1)
          have HW9 : Hid (Below w.heap.size w w9) := (unhide HWV).trans ((unhide HV9).mono (by omega))
          have HM9 : Hid (0 = awE st H B ∧ r9 = awR st H B) := ⟨(unhide HM).1, by rw [← (unhide HM).2, unhide HR9, unhide HR8]⟩
          have HO9' := hide (unhide HO9).toBs
          clear hg9 hbl9
          go_wp2_with fail
          go_ret2
          exact ⟨_, c9, r9, 0, rfl, HM9, HO9', HW9⟩
#print axioms write8
end Go.Proofs.YtonaekkenggmbaaGreatDoor
end
