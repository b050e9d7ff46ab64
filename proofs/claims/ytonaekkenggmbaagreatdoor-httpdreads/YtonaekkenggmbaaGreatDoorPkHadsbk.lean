/-
  httpd: an answer's first line read (readStatus).; httpd: an answer's last line and its headers read (readOwnLength, readOwnHeaders).
-/
import Derived.Test.YtonaekkenggmbaaGreatDoorPkHadsaz
import Derived.Test.YtonaekkenggmbaaGreatDoorPkHadsbj
import Derived.Test.YtonaekkenggmbaaGreatDoorPkHadsal
import Derived.Test.YtonaekkenggmbaaGreatDoorPkHadsam
section
set_option linter.unusedVariables false
set_option maxRecDepth 1000000
namespace Go.Proofs.YtonaekkenggmbaaGreatDoor
open Go.RowKit

/-- Where a first line's digits stand. -/
def dgs (l : List UInt8) : List UInt8 := (Lib.cut (Lib.cut l [32]).2.1 [32]).1
def stX (j : Nat) : List UInt8 := h11b ++ [UInt8.ofNat (48 + rcd.getD j 0 / 100), UInt8.ofNat (48 + rcd.getD j 0 / 10 % 10), UInt8.ofNat (48 + rcd.getD j 0 % 10)] ++ [32] ++ rwd.getD j []
theorem stX_all : ∀ j, j < 18 → (atO (dgs (stX j)) = some (rcd.getD j 0 : Int) ∧ reM (rcd.getD j 0 : Int) = rwd.getD j []) ∧ (100 ≤ rcd.getD j 0 ∧ rcd.getD j 0 < 1000 ∧ rwd.getD j [] ≠ []) := by decide +kernel
theorem itoa3 (n : Nat) (h : 100 ≤ n) (h2 : n < 1000) : Lib.itoa (n : Int) = [UInt8.ofNat (48 + n / 100), UInt8.ofNat (48 + n / 10 % 10), UInt8.ofNat (48 + n % 10)] := by
  rw [Lib.itoa_nonneg, Lib.decDigits, dif_neg (by omega), Lib.decDigits_two (by omega) (by omega), Nat.div_div_eq_div_mul]
  rfl
theorem stL_stX (j : Nat) (hj : j < 18) : stL (rcd.getD j 0 : Int) = stX j := by
  obtain ⟨⟨_, h1⟩, h2, h3, _⟩ := stX_all j hj
  unfold stL stX
  rw [itoa3 _ h2 h3, h1]
theorem reF_lt (st : Int) : ∀ f k, f + k = 18 → reF st f k ≠ [] → ∃ j, j < 18 ∧ (rcd.getD j 0 : Int) = st
  | 0, k, _, h => absurd rfl h
  | f + 1, k, e, h => by
    unfold reF at h
    split at h
    · rename_i e2; exact ⟨k, by omega, e2⟩
    · exact reF_lt st f (k + 1) (by omega) h
/-- The status of a first line. -/
def Rs (l : List UInt8) (s : Int) (b : Bool) : Prop := (b = true → reM s ≠ [] ∧ l = stL s) ∧ (∀ v, reM v ≠ [] → l = stL v → b = true ∧ s = v)
theorem st_digits (v : Int) (h : reM v ≠ []) : atO (dgs (stL v)) = some v := by
  obtain ⟨j, hj, rfl⟩ := reF_lt v 18 0 rfl h
  rw [stL_stX j hj]
  exact (stX_all j hj).1.1
theorem cut_le (l s : List UInt8) : (Lib.cut l s).1.length ≤ l.length ∧ (Lib.cut l s).2.1.length ≤ l.length := cut_len l s
set_option maxHeartbeats 2000000 in
theorem readStatus_any (l : List UInt8) (w : World) (hl : l.length ≤ 1000000) (hE : EnvH w) (hR : Rx w) (hP : P10 w) :
    Calls Tryz.prog 89 #[.string (str l)] w fun e w' => ∃ s b, e = .returned (.tuple #[.int .i64 s, .bool b]) ∧ Hid (Rs l s b) ∧ Hid (Below w.heap.size w w') := by
  have HC1 := hide (scut_any l [32] w hl hE.1)
  have HC2 : Hid (∀ wx, Below w.heap.size w wx → Calls Tryz.prog 110 #[.string (str (Lib.cut l [32]).2.1), .string (str [32])] wx fun e w' => e = .returned (.tuple #[.string (str (dgs l)), .string (str (Lib.cut (Lib.cut l [32]).2.1 [32]).2.1), .bool (Lib.cut (Lib.cut l [32]).2.1 [32]).2.2]) ∧ Hid (Below wx.heap.size wx w')) := fun wx hx => scut_any _ [32] wx (by have := (cut_le l [32]).2; omega) (hE.1.below hx (Nat.le_refl _))
  have HA : Hid (∀ wx, Below w.heap.size w wx → Calls Tryz.prog 111 #[.string (str (dgs l))] wx fun e w' => ∃ v ev, e = .returned (.tuple #[.int .i64 v, ev]) ∧ Hid (Below wx.heap.size wx w') ∧ ((atO (dgs l) = some v ∧ ev = .nilIface) ∨ (atO (dgs l) = none ∧ ∃ t p, ev = .iface t p))) := fun wx hx => atoi_all9 _ wx (by have := (cut_le (Lib.cut l [32]).2.1 [32]).1; have := (cut_le l [32]).2; unfold dgs; omega) (hE.2.below hx (Nat.le_refl _)) (hR.below hx)
  have HST : Hid (∀ st : Int, reM st ≠ [] → ∀ wx, Below w.heap.size w wx → Calls Tryz.prog 60 #[.int .i64 st] wx fun e w' => e = .returned (.string (str (stL st))) ∧ Hid (Below wx.heap.size wx w')) := fun st hst wx hx => by
    obtain ⟨n, rfl, hn⟩ := reM_some st hst
    exact stl_any _ (by omega) (by omega) wx (hP.below hx)
  have HD : Hid (∀ v, reM v ≠ [] → l = stL v → atO (dgs l) = some v) := fun v h1 h2 => by rw [h2]; exact st_digits v h1
  generalize dgs l = D at *
  generalize (Lib.cut (Lib.cut l [32]).2.1 [32]).2.1 = x2 at *
  generalize (Lib.cut (Lib.cut l [32]).2.1 [32]).2.2 = x3 at *
  generalize (Lib.cut l [32]).2.1 = x4 at *
  generalize (Lib.cut l [32]).2.2 = x5 at *
  generalize (Lib.cut l [32]).1 = x6 at *
  clear hE hR hP
  go_enter Tryz.func89, Tryz.ntmps89
  go_wp2_with fail
  refine (unhide HC1).mono ?_
  rintro e w1 ⟨rfl, HB1⟩
  clear HC1
  go_wp2_with fail
  refine (unhide HC2 _ (unhide HB1)).mono ?_
  rintro e w2 ⟨rfl, HB2'⟩
  have HB2 : Hid (Below w.heap.size w w2) := (unhide HB1).trans ((unhide HB2').mono (unhide HB1).size)
  clear HC2 HB1 HB2'
  go_wp2_with fail
  refine (unhide HA _ (unhide HB2)).mono ?_
  rintro e w3 ⟨v, ev, rfl, HB3', hcase⟩
  have HB3 : Hid (Below w.heap.size w w3) := (unhide HB2).trans ((unhide HB3').mono (unhide HB2).size)
  clear HA HB2 HB3'
  rcases hcase with ⟨hv, rfl⟩ | ⟨hv, t, p, rfl⟩
  · have HV := hide hv
    clear hv
    have HRE : Hid (∀ w, Calls Tryz.prog 28 #[.int .i64 v] w fun e w' => e = .returned (.string (str (reM v))) ∧ w' = w) := fun w => reason_any v w
    by_cases hre : reM v = []
    · have f1 : (str (reM v)).toList.isEmpty = true := by rw [toList_str, hre]; rfl
      have HF : Hid (Rs l v false) := ⟨fun h => (by cases h), fun v' h1 h2 => by have := unhide HD v' h1 h2; rw [unhide HV] at this; cases this; exact absurd hre h1⟩
      generalize reM v = R at *
      clear hre HST
      go_wp2_with fail
      refine (unhide HRE _).mono ?_
      rintro e w3 ⟨rfl, rfl⟩
      go_wp2_with fail
      go_ret2
      exact ⟨v, false, rfl, HF, HB3⟩
    · have f1 : (str (reM v)).toList.isEmpty = false := by rw [toList_str]; cases h : reM v with | nil => exact absurd h hre | cons a l => rfl
      have HS2 := hide (unhide HST v hre w3 (unhide HB3))
      have HF : Hid (Rs l v (l == stL v)) := by
        refine ⟨fun h => ⟨hre, eq_of_beq h⟩, fun v' h1 h2 => ?_⟩
        have := unhide HD v' h1 h2
        rw [unhide HV] at this
        cases this
        exact ⟨by rw [← h2]; simp, rfl⟩
      have f2 : ((str l).toList == (str (stL v)).toList) = (l == stL v) := by rw [toList_str, toList_str]
      generalize (l == stL v) = b at *
      generalize stL v = L at *
      generalize reM v = R at *
      clear hre HST HD
      go_wp2_with fail
      refine (unhide HRE _).mono ?_
      rintro e w3 ⟨rfl, rfl⟩
      go_wp2_with fail
      refine (unhide HS2).mono ?_
      rintro e w4 ⟨rfl, HB4⟩
      have HBF := hide ((unhide HB3).trans ((unhide HB4).mono (unhide HB3).size))
      go_wp2_with fail
      go_ret2
      exact ⟨v, b, rfl, HF, HBF⟩
  · have HF : Hid (Rs l v false) := ⟨fun h => (by cases h), fun v' h1 h2 => by have := unhide HD v' h1 h2; rw [hv] at this; cases this⟩
    clear hv HST HD
    go_wp2_with fail
    go_ret2
    exact ⟨v, false, rfl, HF, HB3⟩
#print axioms readStatus_any
end Go.Proofs.YtonaekkenggmbaaGreatDoor
end
section
set_option linter.unusedVariables false
set_option maxRecDepth 1000000
namespace Go.Proofs.YtonaekkenggmbaaGreatDoor
open Go.RowKit

def pCL : List UInt8 := [99, 111, 110, 116, 101, 110, 116, 45, 108, 101, 110, 103, 116, 104, 58, 32]
/-- What a last line says. -/
def olM (l : List UInt8) : Option Nat := if Lib.hasPrefix l pCL then (match rlM (cpx l pCL) with | some n => if Lib.itoa (n : Int) == cpx l pCL then some n else none | none => none) else none
set_option maxHeartbeats 2000000 in
theorem ownLength_any (l : List UInt8) (w : World) (hl : l.length ≤ 1000000) (hE : EnvH w) (hP : P10 w) :
    Calls Tryz.prog 90 #[.string (str l)] w fun e w' => ∃ s b, e = .returned (.tuple #[.int .i64 s, .bool b]) ∧ Hid (b = (olM l).isSome ∧ ∀ n, olM l = some n → s = (n : Int)) ∧ Hid (Below w.heap.size w w') := by
  have HC : Hid (Calls Tryz.prog 112 #[.string (str l), .string ⟨#[99, 111, 110, 116, 101, 110, 116, 45, 108, 101, 110, 103, 116, 104, 58, 32]⟩] w fun e w' => e = .returned (.tuple #[.string (str (cpx l pCL)), .bool (Lib.hasPrefix l pCL)]) ∧ w' = w) := cutPre_any l pCL w hl (by decide)
  have hcl := cpx_len l pCL
  have HRL := hide (readLength_any (cpx l pCL) w (by omega) hE.2)
  have HO : Hid (olM l = if Lib.hasPrefix l pCL then (match rlM (cpx l pCL) with | some n => if Lib.itoa (n : Int) == cpx l pCL then some n else none | none => none) else none) := rfl
  have HP := hide hP
  have HN : Hid (∀ n, rlM (cpx l pCL) = some n → n < 9223372036854775807) := fun n h => by
    have := rlM_lt _ n h
    omega
  generalize olM l = M at *
  generalize cpx l pCL = D at *
  cases hp : Lib.hasPrefix l pCL with
  | false =>
    rw [hp] at HC HO
    have HF : Hid (false = M.isSome ∧ ∀ n, M = some n → (0 : Int) = (n : Int)) := by
      have e : M = none := unhide HO
      rw [e]; exact ⟨rfl, fun n h => by cases h⟩
    clear hp HO hE hP
    go_enter Tryz.func90, Tryz.ntmps90
    go_wp2_with fail
    refine (unhide HC).mono ?_
    rintro e w2 ⟨rfl, rfl⟩
    go_wp2_with fail
    go_ret2
    exact ⟨0, false, rfl, HF, Below.refl _ _⟩
  | true =>
    rw [hp] at HC HO
    clear hp hE hP
    cases hr : rlM D with
    | none =>
      rw [hr] at HRL HO
      have HF : Hid (false = M.isSome ∧ ∀ n, M = some n → (0 : Int) = (n : Int)) := by
        have e : M = none := unhide HO
        rw [e]; exact ⟨rfl, fun n h => by cases h⟩
      clear hr HO
      go_enter Tryz.func90, Tryz.ntmps90
      go_wp2_with fail
      refine (unhide HC).mono ?_
      rintro e w2 ⟨rfl, rfl⟩
      go_wp2_with fail
      refine (unhide HRL).mono ?_
      rintro e w3 ⟨rfl, HB3⟩
      go_wp2_with fail
      go_ret2
      exact ⟨0, false, rfl, HF, HB3⟩
    | some n =>
      rw [hr] at HRL HO
      have hn := unhide HN n hr
      have HIT : Hid (∀ wx, Below w.heap.size w wx → Calls Tryz.prog 38 #[.int .i64 (n : Int)] wx fun e w' => e = .returned (.string (str (Lib.itoa (n : Int)))) ∧ Hid (Below wx.heap.size wx w')) := fun wx hx => itoa_any _ (by omega) (by omega) wx ((unhide HP).below hx)
      have HF : Hid ((Lib.itoa (n : Int) == D) = M.isSome ∧ ∀ m, M = some m → (n : Int) = (m : Int)) := by
        have e : M = if Lib.itoa (n : Int) == D then some n else none := unhide HO
        rw [e]
        split
        · rename_i h; exact ⟨by rw [h]; rfl, fun m h => by cases h; rfl⟩
        · rename_i h; exact ⟨by rw [Bool.not_eq_true] at h; rw [h]; rfl, fun m h => by cases h⟩
      have f1 : ((str (Lib.itoa (n : Int))).toList == (str D).toList) = (Lib.itoa (n : Int) == D) := by rw [toList_str, toList_str]
      generalize (Lib.itoa (n : Int) == D) = b at *
      generalize Lib.itoa (n : Int) = I at *
      have HRL2 : Hid (Calls Tryz.prog 113 #[.string (str D)] w fun e w' => e = .returned (.tuple #[.int .i64 (n : Int), .bool true]) ∧ Hid (Below w.heap.size w w')) := HRL
      clear hr HO HRL HN
      go_enter Tryz.func90, Tryz.ntmps90
      go_wp2_with fail
      refine (unhide HC).mono ?_
      rintro e w2 ⟨rfl, rfl⟩
      go_wp2_with fail
      refine (unhide HRL2).mono ?_
      rintro e w3 ⟨rfl, HB3⟩
      go_wp2_with fail
      refine (unhide HIT _ (unhide HB3)).mono ?_
      rintro e w4 ⟨rfl, HB4⟩
      have HBF := hide ((unhide HB3).trans ((unhide HB4).mono (unhide HB3).size))
      go_wp2_with fail
      go_ret2
      exact ⟨(n : Int), b, rfl, HF, HBF⟩
#print axioms ownLength_any
/-- A header's line. -/
def ohF (l : List UInt8) : Option Hd := if (Lib.cut l [58, 32]).2.2 && ansB ((Lib.cut l [58, 32]).1, (Lib.cut l [58, 32]).2.1) then some ((Lib.cut l [58, 32]).1, (Lib.cut l [58, 32]).2.1) else none
/-- The headers of lines. -/
def ohM : List (List UInt8) → List Hd → Option (List Hd)
  | [], acc => some acc
  | l :: L, acc => match ohF l with | some h => ohM L (acc ++ [h]) | none => none
theorem ohM_step (L : List (List UInt8)) (k : Nat) (x : List UInt8) (acc : List Hd) (h : L[k]? = some x) : ohM (L.drop k) acc = match ohF x with | some h => ohM (L.drop (k + 1)) (acc ++ [h]) | none => none := by
  have hlt := (List.getElem?_eq_some_iff.1 h).1
  have hx : L[k] = x := by rw [List.getElem?_eq_getElem hlt] at h; exact Option.some.inj h
  rw [List.drop_eq_getElem_cons hlt, hx]
  rfl
set_option maxHeartbeats 4000000 in
theorem ownHeaders_any (p : Option Addr) (cp : Nat) (L : List (List UInt8)) (w : World) (h : NsO w p L) (hx : ∀ x ∈ L, x.length ≤ 1000000) (hl : L.length ≤ 1000) (hm : Mx w) :
    Calls Tryz.prog 91 #[.slice p L.length cp] w fun e w' => ∃ a c H b, e = .returned (.tuple #[.slice a H.length c, .bool b]) ∧ Hid (b = (ohM L []).isSome ∧ ∀ G, ohM L [] = some G → H = G) ∧ Hid (OwnH w' w.heap.size a c H) ∧ Hid (Below w.heap.size w w') := by
  have HH := hide h
  have HX := hide hx
  have HM := hide hm
  obtain ⟨T, hT⟩ : ∃ T, ohM L [] = T := ⟨_, rfl⟩
  have HT0 : Hid (T = ohM (L.drop 0) []) := by show _ = _; rw [← hT]; rfl
  rw [hT]
  clear h hx hm hT
  go_enter Tryz.func91, Tryz.ntmps91
  go_wp2
  go_loopw [4, 13] (fun v i wr => ∃ k : Nat, k ≤ L.length ∧ i = .int .i64 (k : Int) ∧ ∃ (a : Option Addr) (c : Nat) (acc : List Hd), v = .slice a acc.length c ∧ acc.length ≤ k ∧ Hid (T = ohM (L.drop k) acc) ∧ Hid (OwnH wr w.heap.size a c acc) ∧ Hid (Below w.heap.size w wr)) (fun _ i _ => L.length - (intOf i).toNat)
  case atStart => exact ⟨0, Nat.zero_le _, rfl, none, 0, [], rfl, by simp, HT0, OwnH.nil _ _, Below.refl _ _⟩
  case round =>
    clear HT0
    obtain ⟨k, hk, rfl, a, c, acc, rfl, hacc, HT, HO, HB⟩ := hrel
    by_cases hlt : k < L.length
    · have hlt' : (k : Int) < (L.length : Int) := by omega
      obtain ⟨x, hx⟩ : ∃ x, L[k]? = some x := ⟨_, List.getElem?_eq_getElem hlt⟩
      obtain ⟨b, off, hpe, hc⟩ := ((unhide HH).below (unhide HB) (Nat.le_refl _)).mem (by intro e; subst e; simp at hx)
      subst hpe
      have c0 := hc k x hx
      have hxl : x.length ≤ 1000000 := unhide HX x (List.mem_of_getElem? hx)
      have HST : Hid (T = match ohF x with | some h => ohM (L.drop (k + 1)) (acc ++ [h]) | none => none) := by show _ = _; rw [unhide HT]; exact ohM_step L k x acc hx
      have HLT := hide hlt
      clear hc hx HT
      have HC1 : Hid (Calls Tryz.prog 110 #[.string (str x), .string ⟨#[58, 32]⟩] wr fun e w' => e = .returned (.tuple #[.string (str (Lib.cut x [58, 32]).1), .string (str (Lib.cut x [58, 32]).2.1), .bool (Lib.cut x [58, 32]).2.2]) ∧ Hid (Below wr.heap.size wr w')) := scut_any x [58, 32] wr hxl ((unhide HM).below (unhide HB) (Nat.le_refl _))
      obtain ⟨cl1, cl2⟩ := cut_len x [58, 32]
      have HF : Hid (ohF x = if (Lib.cut x [58, 32]).2.2 && ansB ((Lib.cut x [58, 32]).1, (Lib.cut x [58, 32]).2.1) then some ((Lib.cut x [58, 32]).1, (Lib.cut x [58, 32]).2.1) else none) := rfl
      generalize Lib.cut x [58, 32] = C at HC1 HF cl1 cl2
      obtain ⟨n1, v1, ok⟩ := C
      simp only at HC1 HF cl1 cl2
      have hn1 : n1.length ≤ 1000000 := by omega
      have hv1 : v1.length ≤ 1000000 := by omega
      clear cl1 cl2
      go_wp2_with fail
      refine (unhide HC1).mono ?_
      rintro e w1 ⟨rfl, HB1⟩
      obtain ⟨V, hV⟩ : ∃ V, V = w1.alloc (.cells #[.string (str n1), .string (str v1)] 49) := ⟨_, rfl⟩
      have hrV : V.heap[w1.heap.size]? = some (.cells #[.string (str n1), .string (str v1)] 49 (0, 0)) := by rw [hV]; exact heap_alloc_new w1 _
      have hb1V : Below w1.heap.size w1 V := by rw [hV]; exact (Below.refl _ _).alloc (Nat.le_refl _) _
      have hbV : Below wr.heap.size wr V := (unhide HB1).trans (hb1V.mono (unhide HB1).size)
      have HBV : Hid (Below w.heap.size w V) := (unhide HB).trans (hbV.mono (unhide HB).size)
      have HOV := hide ((unhide HO).below hbV (Nat.le_refl _))
      have HRV := hide hrV
      have e0 : V.cell? ⟨w1.heap.size, 0, none⟩ = some (.string (str n1)) := cell_of_row _ _ _ _ _ _ hrV
      have e1 : V.cell? ⟨w1.heap.size, 1, none⟩ = some (.string (str v1)) := cell_of_row _ _ _ _ _ _ hrV
      have HNO := hide (isNo_any n1 v1 V hn1 hv1)
      obtain ⟨g1, hg1⟩ : ∃ g, g = w1.heap.size := ⟨_, rfl⟩
      rw [← hg1] at HRV e0 e1
      clear hrV hb1V hbV HC1 HB1 c0 HO
      go_upto_region 7 with fail
      rw [← hV, ← hg1]
      clear hV hg1
      cases ok with
      | false =>
        have HFF : Hid (false = T.isSome ∧ ∀ G, T = some G → ([] : List Hd) = G) := by
          have e : T = none := by rw [unhide HST, unhide HF]; rfl
          rw [e]; exact ⟨rfl, fun G h => by cases h⟩
        clear HST HF HNO
        go_wp2_with fail
        go_ret2
        exact ⟨none, 0, [], false, rfl, HFF, OwnH.nil _ _, HBV⟩
      | true =>
        generalize han : ansB (n1, v1) = A at HNO HF
        clear han
        go_wp2_with fail
        refine (unhide HNO).mono ?_
        rintro e w3 ⟨rfl, HB3⟩
        have HBW : Hid (Below w.heap.size w w3) := (unhide HBV).trans ((unhide HB3).mono (unhide HBV).size)
        have HO3 := hide ((unhide HOV).below (unhide HB3) (Nat.le_refl _))
        have hr3 : w3.heap[g1]? = some (.cells #[.string (str n1), .string (str v1)] 49 (0, 0)) := ((unhide HB3).block _ (Array.getElem?_eq_some_iff.1 (unhide HRV)).1).trans (unhide HRV)
        have d0 : w3.cell? ⟨g1, 0, none⟩ = some (.string (str n1)) := cell_of_row _ _ _ _ _ _ hr3
        have d1 : w3.cell? ⟨g1, 1, none⟩ = some (.string (str v1)) := cell_of_row _ _ _ _ _ _ hr3
        clear HNO HOV HRV HB3 hr3 e0 e1
        cases A with
        | false =>
          have HFF : Hid (false = T.isSome ∧ ∀ G, T = some G → ([] : List Hd) = G) := by
            have e : T = none := by rw [unhide HST, unhide HF]; rfl
            rw [e]; exact ⟨rfl, fun G h => by cases h⟩
          clear HST HF
          go_wp2_with fail
          go_ret2
          exact ⟨none, 0, [], false, rfl, HFF, OwnH.nil _ _, HBW⟩
        | true =>
          have HR : Hid (T = ohM (L.drop (k + 1)) (acc ++ [(n1, v1)])) := by show _ = _; rw [unhide HST, unhide HF]; rfl
          clear HST HF
          obtain ⟨U, hU⟩ : ∃ U, U = w3.alloc (.cells #[.string (str n1), .string (str v1)] 49) := ⟨_, rfl⟩
          have hrU : U.heap[w3.heap.size]? = some (.cells #[.string (str n1), .string (str v1)] 49 (0, 0)) := by rw [hU]; exact heap_alloc_new w3 _
          have hbU : Below w3.heap.size w3 U := by rw [hU]; exact (Below.refl _ _).alloc (Nat.le_refl _) _
          have HOU := hide ((unhide HO3).below hbU (Nat.le_refl _))
          have HBU : Hid (Below w.heap.size w U) := (unhide HBW).trans (hbU.mono (unhide HBW).size)
          have HV0 : Hid (U.cell? ⟨w3.heap.size, 0, none⟩ = some (.string (str n1))) := by show _ = _; rw [cell_of_row U _ 0 _ _ _ hrU]; rfl
          have HV1 : Hid (U.cell? ⟨w3.heap.size, 1, none⟩ = some (.string (str v1))) := by show _ = _; rw [cell_of_row U _ 1 _ _ _ hrU]; rfl
          clear hrU hbU
          go_upto_region 10 with (rw [← hU]; refine wp_apph _ rfl _ _ rfl w.heap.size a c acc rfl (unhide HOU) w3.heap.size 1 (n1, v1) rfl (unhide HV0) (unhide HV1) (by omega) (unhide HBU).size ?_; intro a' c' acc' w5 hr5 ho5 hg5; have HO5 := hide ho5; have HG5 := hide hg5; clear ho5 hg5)
          have hal : acc'.length ≤ k + 1 := by rw [unhide hr5]; simp; omega
          have HB5 : Hid (Below w.heap.size w w5) := (unhide HBU).grown (unhide HG5) (unhide HBU).size (fun j hj => ((unhide HOU).lt j hj).1)
          have HR5 : Hid (T = ohM (L.drop (k + 1)) acc') := by rw [unhide hr5]; exact HR
          have HAL := hide hal
          clear hal hU
          go_wp2
          go_roundw
          case rel => exact ⟨k + 1, by have := unhide HLT; omega, by go_num, a', c', acc', rfl, unhide HAL, HR5, HO5, HB5⟩
          case measure => have := unhide HLT; simp [intOf]; omega
    · obtain rfl : k = L.length := by omega
      have hlt' : ¬ (L.length : Int) < (L.length : Int) := by omega
      have HFF : Hid (true = T.isSome ∧ ∀ G, T = some G → acc = G) := by
        have e : T = some acc := by rw [unhide HT, List.drop_length]; rfl
        rw [e]; exact ⟨rfl, fun G h => by cases h; rfl⟩
      clear hlt HT
      go_wp2
      go_ret2
      first
        | exact ⟨a, c, acc, true, rfl, HFF, HO, HB⟩
        | exact ⟨a, c, acc, .inr ⟨rfl, hide ⟨(unhide HFF).1.symm, (unhide HFF).2⟩, HO, HB⟩⟩
#print axioms ownHeaders_any
end Go.Proofs.YtonaekkenggmbaaGreatDoor
end
