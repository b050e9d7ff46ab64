/-
  wsock: Accept, the program's and the document's, whatever the key.; wsock: Answer, the program's and the document's, whatever the key.
-/
import Derived.Test.YtegbcjfceooflaaDoorPkWptsaw
import Derived.Test.YtegbcjfceooflaaDoorPkWptsao
import Derived.Test.YtegbcjfceooflaaDoorPkWptsbe
import Derived.Test.YtegbcjfceooflaaDoorPkWptsbg
import Derived.Test.YtegbcjfceooflaaDoorPkWptsap
import Derived.Test.YtegbcjfceooflaaDoorPkWptsas
section
set_option linter.unusedVariables false
set_option maxRecDepth 1000000
namespace Go.Proofs.YtegbcjfceooflaaDoor
open Go.RowKit

theorem sx_some (x : UInt8) (n : Nat) (h : n6 x = some n) : sx x = (n : Int) := by unfold sx; rw [h]
theorem kp_kr (l : List UInt8) : kpB l = krB l := by
  by_cases h24 : l.length = 24
  · have hT : (l.take 22).getLast? = some (l.getD 21 0) := by
      rw [List.getLast?_eq_getElem?, List.length_take, List.getElem?_take, if_pos (by omega)]
      have : min 22 l.length - 1 = 21 := by omega
      rw [this, List.getElem?_eq_getElem (by omega)]
      simp [h24]
    have e1 : kpB l = true ↔ kyP l := by
      unfold kpB kyP
      rw [decide_eq_true h24, Bool.true_and]
      cases hu : unR ((l.take 22).map rp) 0 0 with
      | none => simp
      | some b =>
        simp
    have e2 : krB l = true ↔ kyR l := by
      unfold krB kyR
      rw [decide_eq_true h24, Bool.true_and, hT]
      simp only [Bool.and_eq_true, beq_iff_eq, List.all_eq_true, Option.bind_some, and_assoc]
      constructor
      · rintro ⟨h1, h2, h3⟩
        have h2' : ∀ x ∈ l.take 22, ∃ n, n6 x = some n := fun x hx => Option.isSome_iff_exists.1 (h2 x hx)
        obtain ⟨n, hn⟩ := h2' (l.getD 21 0) (List.mem_of_getLast? hT)
        refine ⟨h1, h2', n, hn, ?_⟩
        rw [sx_some _ n hn] at h3
        have : ((n : Int).tmod 16) = ((n % 16 : Nat) : Int) := rfl
        rw [this] at h3
        omega
      · rintro ⟨h1, h2, n, hn, h3⟩
        refine ⟨h1, fun x hx => Option.isSome_iff_exists.2 (h2 x hx), ?_⟩
        rw [sx_some _ n hn]
        show ((n % 16 : Nat) : Int) = 0
        omega
    have := e1.trans ((ky_eq l h24).trans e2.symm)
    cases h1 : kpB l <;> cases h2 : krB l <;> simp_all
  · unfold kpB krB
    rw [decide_eq_false h24]
    rfl
#print axioms kp_kr

def mg : List UInt8 := [50, 53, 56, 69, 65, 70, 65, 53, 45, 69, 57, 49, 52, 45, 52, 55, 68, 65, 45, 57, 53, 67, 65, 45, 67, 53, 65, 66, 48, 68, 67, 56, 53, 66, 49, 49]
/-- What Accept answers. -/
def acS (l : List UInt8) : List UInt8 := if kpB l then b64 (sha1 (l ++ mg)) else []
def acE (l : List UInt8) : Int := if kpB l then 0 else 90
theorem cat_mg (l : List UInt8) : (str l) ++ (⟨#[50, 53, 56, 69, 65, 70, 65, 53, 45, 69, 57, 49, 52, 45, 52, 55, 68, 65, 45, 57, 53, 67, 65, 45, 67, 53, 65, 66, 48, 68, 67, 56, 53, 66, 49, 49]⟩ : ByteArray) = str (l ++ mg) := str_append l mg
theorem kp_len (l : List UInt8) (h : kpB l = true) : l.length = 24 := by
  unfold kpB at h
  simp only [Bool.and_eq_true, decide_eq_true_eq] at h
  exact h.1
theorem b64_digs (D : List UInt8) (hl : D.length = 20) (C : Nat) (t : TypeId) (w : World) (h : Cel w C t (bs D)) : Calls Tryd.prog 18 #[.slice (some ⟨C, 0, none⟩) 20 20] w fun e w' => e = .returned (.string (str (b64 D))) ∧ Below w.heap.size w w' := by
  have h := base64_any (some ⟨C, 0, none⟩) 20 D w ⟨h.row, by omega, by unfold maxLen; omega, fun h => by cases h⟩ (by omega)
  rw [hl] at h
  exact h
set_option maxHeartbeats 2000000 in
theorem accept_any (l : List UInt8) (w : World) (hl : l.length ≤ 1000000) (hm : Mx w) (hT : Tb w) :
    Calls Tryd.prog 6 #[.string (str l)] w fun e w' => e = .returned (.tuple #[.string (str (acS l)), .int .i64 (acE l)]) ∧ Hid (Below w.heap.size w w') := by
  have HT := hide hT
  have HKEY := hide (isKey_any l w hl hm)
  clear hm hT
  cases hk : kpB l with
  | false =>
    have HE : Hid (acE l = 90) := by show _ = _; unfold acE; rw [hk]; rfl
    have HS : Hid (acS l = []) := by show _ = _; unfold acS; rw [hk]; rfl
    rw [hk] at HKEY
    clear hk
    go_enter Tryd.func6, Tryd.ntmps6
    go_wp2_with (go_at_call 16; refine (unhide HKEY).mono ?_; rintro e w1 ⟨rfl, HB1⟩)
    go_ret2
    exact ⟨by rw [unhide HE, unhide HS]; rfl, HB1⟩
  | true =>
    have h24 := kp_len l hk
    have HE : Hid (acE l = 0) := by show _ = _; unfold acE; rw [hk]; rfl
    obtain ⟨M, hM⟩ : ∃ M, M = l ++ mg := ⟨_, rfl⟩
    have hMl : M.length = 60 := by rw [hM, List.length_append, h24]; rfl
    obtain ⟨D, hD⟩ : ∃ D, D = sha1 M := ⟨_, rfl⟩
    have HS : Hid (acS l = b64 D) := by show _ = _; unfold acS; rw [hk, hD, hM]; rfl
    rw [hk] at HKEY
    have hsz : (str l).size = 24 := by rw [str_size, h24]
    have hcat := cat_mg l
    rw [← hM] at hcat
    obtain ⟨V, G, hV, hVb, hVr⟩ := to_bytesk
    have hV1 := fun wx => hV M wx
    rw [hMl] at hV1
    have HVB := hide (fun wx => hVb M wx)
    have HVR := hide (fun wx => hVr M wx (by intro e; rw [e] at hMl; cases hMl) (by omega))
    have hDl : D.length = 20 := by rw [hD]; exact sha1_length M
    have HD := hide hDl
    have HSH : Hid (∀ (a : Option Addr) (cap : Nat) (w : World), Bs w a cap M → Tb w → Calls Tryd.prog 17 #[.slice a 60 cap] w fun e w' => e = .returned (.agg (bs D).toArray) ∧ Below w.heap.size w w') := by
      intro a cap w hB hT
      have := sha1_any a cap M w hB (by omega) hT
      rw [hMl, ← hD] at this
      exact this
    have HBD := hide (b64_digs D hDl)
    clear hV hVb hVr hDl hk h24 hM hMl hD
    go_enter Tryd.func6, Tryd.ntmps6
    go_wp2_with (first
      | (go_at_call 16; refine (unhide HKEY).mono ?_; rintro e w1 ⟨rfl, HB1⟩; have HT1 := hide ((unhide HT).below (unhide HB1) (unhide HT).big))
      | (go_at_call 17; refine (unhide HSH _ _ _ (unhide HVR w1) ((unhide HT1).below (unhide HVB w1) (unhide HT1).big)).mono ?_; rintro e w2 ⟨rfl, hb2⟩; have HB2 := hide (((unhide HB1).trans ((unhide HVB w1).mono (unhide HB1).size)).trans (hb2.mono (Nat.le_trans (unhide HB1).size (unhide HVB w1).size))); clear hb2)
      | (refine wpL_store rfl 50 _ _ rfl _ rfl (bs D) rfl 50 (bs (noughts 20)) (Cel.newAt' w2 _ _ w2.heap.size _ rfl rfl) (by rw [bs_length, bs_length, HD.out]; rfl) (by rw [bs_length, HD.out]; kernel_rfl) (bs_one' _) ?_; intro w3 hC3 hg3; have HC3 := hide hC3; have HB3 := hide ((unhide HB2).trans (cg_to_below (cg_trans (cg_alloc w2 _ (some w2.heap.size)) hg3) (unhide HB2).size (unhide HB2).size)); clear hC3 hg3)
      | (go_at_call 18; refine (unhide HBD _ _ _ (unhide HC3)).mono ?_; rintro e w4 ⟨rfl, hb4⟩; have HB4 := hide ((unhide HB3).trans (hb4.mono (unhide HB3).size)); clear hb4))
    rw [HS.out, HE.out]
    exact bodyPost_ret (v := .tuple #[.string (str (b64 D)), .int .i64 0]) (by simp [results, Tryd.results6, go_sem]) rfl ⟨rfl, HB4⟩
#print axioms accept_any

set_option maxHeartbeats 2000000 in
theorem raccept_any (l : List UInt8) (w : World) (hl : l.length ≤ 1000000) :
    Calls Tryd.prog 7 #[.string (str l)] w fun e w' => e = .returned (.tuple #[.string (str (acS l)), .int .i64 (acE l)]) ∧ Hid (Below w.heap.size w w') := by
  have HKEY := hide (rkey_any l w hl)
  rw [← kp_kr] at HKEY
  cases hk : kpB l with
  | false =>
    have HE : Hid (acE l = 90) := by show _ = _; unfold acE; rw [hk]; rfl
    have HS : Hid (acS l = []) := by show _ = _; unfold acS; rw [hk]; rfl
    rw [hk] at HKEY
    clear hk
    go_enter Tryd.func7, Tryd.ntmps7
    go_wp2_with (go_at_call 19; refine (unhide HKEY).mono ?_; rintro e w1 ⟨rfl, HB1⟩)
    go_ret2
    exact ⟨by rw [unhide HE, unhide HS]; rfl, HB1⟩
  | true =>
    have h24 := kp_len l hk
    have HE : Hid (acE l = 0) := by show _ = _; unfold acE; rw [hk]; rfl
    obtain ⟨M, hM⟩ : ∃ M, M = l ++ mg := ⟨_, rfl⟩
    have hMl : M.length = 60 := by rw [hM, List.length_append, h24]; rfl
    have HS : Hid (acS l = b64 (sha1 M)) := by show _ = _; unfold acS; rw [hk, hM]; rfl
    rw [hk] at HKEY
    have hsz : (str l).size = 24 := by rw [str_size, h24]
    have hcat := cat_mg l
    rw [← hM] at hcat
    obtain ⟨V, G, hV, hVb, hVr⟩ := to_bytesk
    have hV1 := fun wx => hV M wx
    rw [hMl] at hV1
    have HVB := hide (fun wx => hVb M wx)
    have HVR := hide (fun wx => hVr M wx (by intro e; rw [e] at hMl; cases hMl) (by omega))
    have HSH : Hid (∀ (a : Option Addr) (cap : Nat) (w : World), Bs w a cap M → Calls Tryd.prog 21 #[.slice a 60 cap] w fun e w' => ∃ a' cap' r, e = .returned (.slice a' r.length cap') ∧ Hid (r = sha1 M) ∧ Hid (OwnB w' w.heap.size a' cap' r) ∧ Hid (Below w.heap.size w w')) := by
      intro a cap w hB
      have := rsha1_any a cap M w hB (by omega)
      rw [hMl] at this
      exact this
    clear hV hVb hVr hk h24 hM hMl
    go_enter Tryd.func7, Tryd.ntmps7
    go_wp2_with (first
      | (go_at_call 19; refine (unhide HKEY).mono ?_; rintro e w1 ⟨rfl, HB1⟩)
      | (go_at_call 21; refine (unhide HSH _ _ _ (unhide HVR w1)).mono ?_; rintro e w2 ⟨a2, c2, r2, rfl, HR2, HO2, hb2⟩; have HB2 := hide (((unhide HB1).trans ((unhide HVB w1).mono (unhide HB1).size)).trans (hb2.out.mono (Nat.le_trans (unhide HB1).size (unhide HVB w1).size))); clear hb2)
      | (go_at_call 20; refine (rb64_any a2 c2 r2 w2 (unhide HO2).toBs (by rw [HR2.out, sha1_length]; decide)).mono ?_; rintro e w4 ⟨rfl, hb4⟩; have HB4 := hide ((unhide HB2).trans (hb4.mono (unhide HB2).size)); clear hb4))
    go_ret2
    exact ⟨by rw [unhide HE, unhide HS, unhide HR2]; rfl, HB4⟩
#print axioms raccept_any
end Go.Proofs.YtegbcjfceooflaaDoor
end
section
set_option linter.unusedVariables false
set_option maxRecDepth 1000000
namespace Go.Proofs.YtegbcjfceooflaaDoor
open Go.RowKit

def hUp : List UInt8 := [117, 112, 103, 114, 97, 100, 101]
def hWs : List UInt8 := [119, 101, 98, 115, 111, 99, 107, 101, 116]
def hCo : List UInt8 := [99, 111, 110, 110, 101, 99, 116, 105, 111, 110]
def hUP : List UInt8 := [85, 112, 103, 114, 97, 100, 101]
def hAc : List UInt8 := [115, 101, 99, 45, 119, 101, 98, 115, 111, 99, 107, 101, 116, 45, 97, 99, 99, 101, 112, 116]
/-- What Answer answers. -/
def anS (l : List UInt8) : Int := if kpB l then 101 else 0
def anH (l : List UInt8) : List Hd := if kpB l then [(hUp, hWs), (hCo, hUP), (hAc, acS l)] else []

/-- An answer of nothing. -/
def zA : List Value := [.int .i64 0, .slice none 0 0, .slice none 0 0]
set_option maxHeartbeats 2000000 in
theorem answer_any (l : List UInt8) (w : World) (hl : l.length ≤ 1000000) (hm : Mx w) (hT : Tb w) :
    Calls Tryd.prog 8 #[.string (str l)] w fun e w' => ∃ p c, e = .returned (.tuple #[.agg #[.int .i64 (anS l), .slice p (anH l).length c, .slice none 0 0], .int .i64 (acE l)]) ∧ Hid (HdR w' p (anH l)) ∧ Hid (Below w.heap.size w w') := by
  have HT := hide hT
  have HM := hide hm
  clear hm hT
  cases hk : kpB l with
  | false =>
    have HE : Hid (acE l = 90) := by show _ = _; unfold acE; rw [hk]; rfl
    have HS : Hid (anS l = 0) := by show _ = _; unfold anS; rw [hk]; rfl
    have HH : Hid (anH l = []) := by show _ = _; unfold anH; rw [hk]; rfl
    clear hk
    go_enter Tryd.func8, Tryd.ntmps8
    go_wp2_with (first
      | (go_at_call 6; refine (accept_any l _ hl ((unhide HM).below ((Below.refl _ _).alloc (Nat.le_refl _) _) (Nat.le_refl _)) ((unhide HT).below ((Below.refl _ _).alloc (Nat.le_refl _) _) (unhide HT).big)).mono ?_; rw [HE.out]; rintro e w1 ⟨rfl, hb1⟩; have HC1 : Hid (Cel w1 w.heap.size 32 zA) := (Cel.new w 32 zA).below hb1.out (by simp); have HB1 := hide (((Below.refl _ _).alloc (Nat.le_refl _) _ : Below w.heap.size w (w.alloc (.cells zA.toArray 32))).trans (hb1.out.mono (by simp))); clear hb1)
      | (refine wpL_store rfl 32 _ _ rfl _ rfl zA rfl 32 zA (unhide HC1) rfl (by kernel_rfl) (by simp [zA, Value.oneCell']) ?_; intro w2 hC2 hg2))
    have r0 : w2.cell? ⟨w.heap.size, 0, none⟩ = some (.int .i64 0) := hC2.cell 0
    have r1 : w2.cell? ⟨w.heap.size, 1, none⟩ = some (.slice none 0 0) := hC2.cell 1
    have r2 : w2.cell? ⟨w.heap.size, 2, none⟩ = some (.slice none 0 0) := hC2.cell 2
    refine bodyPost_ret (v := .tuple #[.agg #[.int .i64 0, .slice none 0 0, .slice none 0 0], .int .i64 90]) (by simp [results, Tryd.results8, go_sem, r0, r1, r2]) rfl ⟨none, 0, ?_, ?_, ?_⟩
    · rw [unhide HS, unhide HE, unhide HH]; rfl
    · show HdR _ _ _; rw [unhide HH]; exact ⟨fun h => absurd rfl h, by simp⟩
    · exact (unhide HB1).grown hg2 (unhide HB1).size (fun k hk => by cases hk; omega)
  | true =>
    have HE : Hid (acE l = 0) := by show _ = _; unfold acE; rw [hk]; rfl
    have HS : Hid (anS l = 101) := by show _ = _; unfold anS; rw [hk]; rfl
    have HH : Hid (anH l = [(hUp, hWs), (hCo, hUP), (hAc, acS l)]) := by show _ = _; unfold anH; rw [hk]; rfl
    clear hk
    go_enter Tryd.func8, Tryd.ntmps8
    go_wp2_with (first
      | (go_at_call 6; refine (accept_any l _ hl ((unhide HM).below ((Below.refl _ _).alloc (Nat.le_refl _) _) (Nat.le_refl _)) ((unhide HT).below ((Below.refl _ _).alloc (Nat.le_refl _) _) (unhide HT).big)).mono ?_; rw [HE.out]; rintro e w1 ⟨rfl, hb1⟩; have HC1 : Hid (Cel w1 w.heap.size 32 zA) := (Cel.new w 32 zA).below hb1.out (by simp); have HB1 := hide (((Below.refl _ _).alloc (Nat.le_refl _) _ : Below w.heap.size w (w.alloc (.cells zA.toArray 32))).trans (hb1.out.mono (by simp))); clear hb1)
      | (refine wpL_store rfl 32 _ _ rfl _ rfl [.int .i64 101, .slice (some ⟨w1.heap.size, 0, none⟩) 3 3, .slice none 0 0] rfl 32 zA ((unhide HC1).alloc _) rfl (by kernel_rfl) (by simp [Value.oneCell']) ?_; intro w2 hC2 hg2))
    have r0 : w2.cell? ⟨w.heap.size, 0, none⟩ = some (.int .i64 101) := hC2.cell 0
    have r1 : w2.cell? ⟨w.heap.size, 1, none⟩ = some (.slice (some ⟨w1.heap.size, 0, none⟩) 3 3) := hC2.cell 1
    have r2 : w2.cell? ⟨w.heap.size, 2, none⟩ = some (.slice none 0 0) := hC2.cell 2
    have hlt := (unhide HC1).lt
    refine bodyPost_ret (v := .tuple #[.agg #[.int .i64 101, .slice (some ⟨w1.heap.size, 0, none⟩) 3 3, .slice none 0 0], .int .i64 0]) (by simp [results, Tryd.results8, go_sem, r0, r1, r2]) rfl ⟨some ⟨w1.heap.size, 0, none⟩, 3, ?_, ?_, ?_⟩
    · rw [unhide HS, unhide HE, unhide HH]; rfl
    · show HdR _ _ _
      rw [unhide HH]
      refine ⟨fun _ => ⟨w1.heap.size, 0, rfl, fun t h ht => ?_⟩, by unfold maxLen; simp⟩
      have hblk := hg2.5 w1.heap.size (by simp) (by intro h; have := Option.some.inj h; omega)
      rw [heap_alloc_new] at hblk
      match t, ht with
      | 0, ht => cases ht; exact ⟨by rw [cell_of_row _ _ _ _ _ _ hblk]; rfl, by rw [cell_of_row _ _ _ _ _ _ hblk]; rfl⟩
      | 1, ht => cases ht; exact ⟨by rw [cell_of_row _ _ _ _ _ _ hblk]; rfl, by rw [cell_of_row _ _ _ _ _ _ hblk]; rfl⟩
      | 2, ht => cases ht; exact ⟨by rw [cell_of_row _ _ _ _ _ _ hblk]; rfl, by rw [cell_of_row _ _ _ _ _ _ hblk]; rfl⟩
      | t + 3, ht => simp at ht
    · exact ((unhide HB1).alloc (unhide HB1).size _).grown hg2 (Nat.le_trans (unhide HB1).size (by simp)) (fun k hk => by cases hk; omega)
#print axioms answer_any
set_option maxHeartbeats 2000000 in
theorem ranswer_any (l : List UInt8) (w : World) (hl : l.length ≤ 1000000) :
    Calls Tryd.prog 9 #[.string (str l)] w fun e w' => ∃ p c, e = .returned (.tuple #[.agg #[.int .i64 (anS l), .slice p (anH l).length c, .slice none 0 0], .int .i64 (acE l)]) ∧ Hid (HdR w' p (anH l)) ∧ Hid (Below w.heap.size w w') := by
  cases hk : kpB l with
  | false =>
    have HE : Hid (acE l = 90) := by show _ = _; unfold acE; rw [hk]; rfl
    have HS : Hid (anS l = 0) := by show _ = _; unfold anS; rw [hk]; rfl
    have HH : Hid (anH l = []) := by show _ = _; unfold anH; rw [hk]; rfl
    clear hk
    go_enter Tryd.func9, Tryd.ntmps9
    go_wp2_with (first
      | (go_at_call 7; refine (raccept_any l _ hl).mono ?_; rw [HE.out]; rintro e w1 ⟨rfl, hb1⟩; have HC1 : Hid (Cel w1 w.heap.size 32 zA) := (Cel.new w 32 zA).below hb1.out (by simp); have HB1 := hide (((Below.refl _ _).alloc (Nat.le_refl _) _ : Below w.heap.size w (w.alloc (.cells zA.toArray 32))).trans (hb1.out.mono (by simp))); clear hb1)
      | (refine wpL_store rfl 32 _ _ rfl _ rfl zA rfl 32 zA (unhide HC1) rfl (by kernel_rfl) (by simp [zA, Value.oneCell']) ?_; intro w2 hC2 hg2))
    have r0 : w2.cell? ⟨w.heap.size, 0, none⟩ = some (.int .i64 0) := hC2.cell 0
    have r1 : w2.cell? ⟨w.heap.size, 1, none⟩ = some (.slice none 0 0) := hC2.cell 1
    have r2 : w2.cell? ⟨w.heap.size, 2, none⟩ = some (.slice none 0 0) := hC2.cell 2
    refine bodyPost_ret (v := .tuple #[.agg #[.int .i64 0, .slice none 0 0, .slice none 0 0], .int .i64 90]) (by simp [results, Tryd.results9, go_sem, r0, r1, r2]) rfl ⟨none, 0, ?_, ?_, ?_⟩
    · rw [unhide HS, unhide HE, unhide HH]; rfl
    · show HdR _ _ _; rw [unhide HH]; exact ⟨fun h => absurd rfl h, by simp⟩
    · exact (unhide HB1).grown hg2 (unhide HB1).size (fun k hk => by cases hk; omega)
  | true =>
    have HE : Hid (acE l = 0) := by show _ = _; unfold acE; rw [hk]; rfl
    have HS : Hid (anS l = 101) := by show _ = _; unfold anS; rw [hk]; rfl
    have HH : Hid (anH l = [(hUp, hWs), (hCo, hUP), (hAc, acS l)]) := by show _ = _; unfold anH; rw [hk]; rfl
    clear hk
    go_enter Tryd.func9, Tryd.ntmps9
    go_wp2_with (first
      | (go_at_call 7; refine (raccept_any l _ hl).mono ?_; rw [HE.out]; rintro e w1 ⟨rfl, hb1⟩; have HC1 : Hid (Cel w1 w.heap.size 32 zA) := (Cel.new w 32 zA).below hb1.out (by simp); have HB1 := hide (((Below.refl _ _).alloc (Nat.le_refl _) _ : Below w.heap.size w (w.alloc (.cells zA.toArray 32))).trans (hb1.out.mono (by simp))); clear hb1)
      | (refine wpL_store rfl 32 _ _ rfl _ rfl [.int .i64 101, .slice (some ⟨w1.heap.size, 0, none⟩) 3 3, .slice none 0 0] rfl 32 zA ((unhide HC1).alloc _) rfl (by kernel_rfl) (by simp [Value.oneCell']) ?_; intro w2 hC2 hg2))
    have r0 : w2.cell? ⟨w.heap.size, 0, none⟩ = some (.int .i64 101) := hC2.cell 0
    have r1 : w2.cell? ⟨w.heap.size, 1, none⟩ = some (.slice (some ⟨w1.heap.size, 0, none⟩) 3 3) := hC2.cell 1
    have r2 : w2.cell? ⟨w.heap.size, 2, none⟩ = some (.slice none 0 0) := hC2.cell 2
    have hlt := (unhide HC1).lt
    refine bodyPost_ret (v := .tuple #[.agg #[.int .i64 101, .slice (some ⟨w1.heap.size, 0, none⟩) 3 3, .slice none 0 0], .int .i64 0]) (by simp [results, Tryd.results9, go_sem, r0, r1, r2]) rfl ⟨some ⟨w1.heap.size, 0, none⟩, 3, ?_, ?_, ?_⟩
    · rw [unhide HS, unhide HE, unhide HH]; rfl
    · show HdR _ _ _
      rw [unhide HH]
      refine ⟨fun _ => ⟨w1.heap.size, 0, rfl, fun t h ht => ?_⟩, by unfold maxLen; simp⟩
      have hblk := hg2.5 w1.heap.size (by simp) (by intro h; have := Option.some.inj h; omega)
      rw [heap_alloc_new] at hblk
      match t, ht with
      | 0, ht => cases ht; exact ⟨by rw [cell_of_row _ _ _ _ _ _ hblk]; rfl, by rw [cell_of_row _ _ _ _ _ _ hblk]; rfl⟩
      | 1, ht => cases ht; exact ⟨by rw [cell_of_row _ _ _ _ _ _ hblk]; rfl, by rw [cell_of_row _ _ _ _ _ _ hblk]; rfl⟩
      | 2, ht => cases ht; exact ⟨by rw [cell_of_row _ _ _ _ _ _ hblk]; rfl, by rw [cell_of_row _ _ _ _ _ _ hblk]; rfl⟩
      | t + 3, ht => simp at ht
    · exact ((unhide HB1).alloc (unhide HB1).size _).grown hg2 (Nat.le_trans (unhide HB1).size (by simp)) (fun k hk => by cases hk; omega)
#print axioms ranswer_any
end Go.Proofs.YtegbcjfceooflaaDoor
end
