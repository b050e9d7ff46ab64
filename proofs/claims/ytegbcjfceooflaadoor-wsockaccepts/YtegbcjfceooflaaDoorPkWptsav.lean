/-
  wsock: upgrades: strings.Split, strings.Trim, slices.ContainsFunc.; wsock: what the document's listed leans on: parts between commas, blanks off both ends in either order.; wsock: the document's listed, whatever the text.; wsock: the document's just, whatever the fields.
-/
import Derived.Test.YtegbcjfceooflaaDoorPkWptsar
import Derived.Test.YtegbcjfceooflaaDoorPkWptsas
import Derived.Test.YtegbcjfceooflaaDoorPkWptsat
import Derived.Test.YtegbcjfceooflaaDoorPkWptsau
import Derived.Lib.SplitLaws
import Derived.Test.YtegbcjfceooflaaDoorPkWptsao
section
set_option linter.unusedVariables false
set_option maxRecDepth 1000000
namespace Go.Proofs.YtegbcjfceooflaaDoor
open Go.RowKit

/-- A text's parts between commas. -/
def spl (c : UInt8) : List UInt8 → List (List UInt8)
  | [] => [[]]
  | b :: l => if b = c then [] :: spl c l else match spl c l with | [] => [[b]] | h :: t => (b :: h) :: t
theorem spl_ne (c : UInt8) : ∀ l, spl c l ≠ []
  | [] => by simp [spl]
  | b :: l => by
    unfold spl
    split
    · simp
    · split <;> simp
theorem sk_eq (c : UInt8) (k : Nat) (l : List UInt8) : Lib.splitK [c] 0 (k + 1) (c :: l) = [] :: Lib.splitK [c] 0 k l := by
  rw [Lib.splitK, ix_eq, if_neg (by decide)]
  rfl
theorem sk_ne (b c : UInt8) (h : b ≠ c) : ∀ (k : Nat) (l : List UInt8), Lib.splitK [c] 0 k (b :: l) = (match Lib.splitK [c] 0 k l with | [] => [[b]] | h :: t => (b :: h) :: t)
  | 0, l => rfl
  | k + 1, l => by
    by_cases e : Lib.index l [c] = -1
    · rw [Lib.splitK, Lib.splitK, ix_ne b c l h, if_pos e, if_pos (by rfl), if_pos (by rw [e]; rfl)]
    · have hg := Lib.index_ge l [c]
      obtain ⟨i, hi⟩ : ∃ i : Nat, Lib.index l [c] = i := ⟨(Lib.index l [c]).toNat, by omega⟩
      have e1 : Lib.index (b :: l) [c] = ((i + 1 : Nat) : Int) := by rw [ix_ne b c l h, if_neg e, hi]; omega
      rw [Lib.splitK, Lib.splitK, e1, hi, if_neg (by simp <;> omega), if_neg (by simp <;> omega)]
      simp only [Int.toNat_natCast, Nat.add_zero]
      rw [show i + 1 + [c].length = (i + [c].length) + 1 by omega]
      simp
theorem sk_all (c : UInt8) : ∀ l : List UInt8, Lib.splitK [c] 0 (l.count c) l = spl c l
  | [] => rfl
  | b :: l => by
    by_cases h : b = c
    · subst h
      rw [List.count_cons_self, sk_eq, sk_all b l]
      simp [spl]
    · rw [List.count_cons_of_ne (by simpa using h), sk_ne b c h, sk_all c l]
      conv => rhs; unfold spl
      rw [if_neg h]
theorem spl_len (c : UInt8) : ∀ l : List UInt8, ∀ x ∈ spl c l, x.length ≤ l.length
  | [], x, hx => by simp [spl] at hx; simp [hx]
  | b :: l, x, hx => by
    have ih := spl_len c l
    unfold spl at hx
    split at hx
    · rcases List.mem_cons.1 hx with rfl | h
      · simp
      · have := ih x h; simp; omega
    · revert hx
      cases hs : spl c l with
      | nil => exact fun _ => absurd hs (spl_ne c l)
      | cons h t =>
        rw [hs] at ih
        intro hx
        rcases List.mem_cons.1 hx with rfl | h'
        · have := ih h (by simp); simp; omega
        · have := ih x (by simp [h']); simp; omega
theorem spl_num (c : UInt8) : ∀ l : List UInt8, (spl c l).length = l.count c + 1
  | [] => rfl
  | b :: l => by
    have ih := spl_num c l
    unfold spl
    by_cases h : b = c
    · subst h
      rw [if_pos rfl, List.count_cons_self, List.length_cons, ih]
    · rw [if_neg h, List.count_cons_of_ne (by simpa using h)]
      cases hs : spl c l with
      | nil => exact absurd hs (spl_ne c l)
      | cons x t => rw [hs] at ih; simpa using ih

/-- Texts that are read. -/
def NsR (w : World) (p : Option Addr) (L : List (List UInt8)) : Prop := ∀ t h, L[t]? = some h → ∃ b, p = some ⟨b, 0, none⟩ ∧ w.cell? ⟨b, t, none⟩ = some (.string (str h))
theorem NsR.below {w w' : World} {B : Nat} {p : Option Addr} {L : List (List UInt8)} (h : NsR w p L) (hb : Below B w w') (hB : w.heap.size ≤ B) : NsR w' p L := by
  intro t x hx
  obtain ⟨b, e, hc⟩ := h t x hx
  exact ⟨b, e, by rw [hb.cell (Nat.lt_of_lt_of_le (World.block_lt_of_cell? w _ hc) hB)]; exact hc⟩
theorem OwnN.toNsR {w : World} {base : Nat} {a : Option Addr} {cap : Nat} {l : List (List UInt8)} (h : OwnN w base a cap l) : NsR w a l := by
  intro t x hx
  have hlt := (List.getElem?_eq_some_iff.1 hx).1
  obtain ⟨g, e, _, _, hc⟩ := h.some (by omega)
  refine ⟨g, e, ?_⟩
  have : l.getD t [] = x := by simp [List.getD, hx]
  rw [← this]; exact hc t hlt

theorem info9s : (Tryd.prog.info? (Tryd.lays146_ren.t 9)).map (fun i => (i.zero, i.size, i.bytes)) = some (some (.string ByteArray.empty), 1, 16) := by kernel_rfl
theorem split_any (l : List UInt8) (w : World) (hl : l.length ≤ 1000000) (hm : Mx w) :
    Calls Tryd.prog 50 #[.string (str l), .string ⟨#[44]⟩] w fun e w' => ∃ p c L, e = .returned (.slice p L.length c) ∧ Hid (L = spl 44 l) ∧ Hid (NsR w' p L) ∧ Hid (Below w.heap.size w w') := by
  obtain ⟨m, hm⟩ := hm
  have h := Any.strings_Split (ρ := Tryd.lays146_ren) Tryd.lays146 info9s (str l) ⟨#[44]⟩ m w (by rw [str_size]; omega) hm (Nat.le_refl _)
  refine h.mono ?_
  rintro e w' ⟨rfl, rfl⟩
  have hcnt : Lib.countB (str l) ⟨#[44]⟩ = l.count 44 := Lib.count_one 44 l
  have hdat := Lib.splitB_data ⟨#[44]⟩ 0 (Lib.countB (str l) ⟨#[44]⟩) (str l)
  have hsp : Lib.splitK (⟨#[44]⟩ : ByteArray).data.toList 0 (Lib.countB (str l) ⟨#[44]⟩) (str l).data.toList = spl 44 l := by rw [hcnt]; exact sk_all 44 l
  rw [hsp] at hdat
  refine ⟨some ⟨w.heap.size, 0, none⟩, Lib.countB (str l) ⟨#[44]⟩ + 1, spl 44 l, ?_, rfl, ?_, (Below.refl _ _).alloc (Nat.le_refl _) _⟩
  · rw [hcnt, spl_num]
  · intro t x hx
    refine ⟨w.heap.size, rfl, ?_⟩
    rw [cell_of_row _ _ _ _ _ _ (heap_alloc_new w _)]
    rw [← hdat, List.getElem?_map] at hx
    cases hB : (Lib.splitB ⟨#[44]⟩ 0 (Lib.countB (str l) ⟨#[44]⟩) (str l))[t]? with
    | none => rw [hB] at hx; cases hx
    | some B =>
      rw [hB] at hx
      simp only [Option.map_some, Option.some.injEq] at hx
      rw [List.getElem?_toArray, List.getElem?_map, hB]
      simp only [Option.map_some]
      rw [str_eq B x hx.symm]
#print axioms split_any

/-- Blanks. -/
def bl2 (x : UInt8) : Bool := [(32 : UInt8), 9].contains x
def trm (l : List UInt8) : List UInt8 := Lib.trimS l [32, 9]
theorem trm_len (l : List UInt8) : (trm l).length ≤ l.length := by
  unfold trm Lib.trimS Lib.trimLeftS Lib.trimRightS
  refine Nat.le_trans (List.dropWhile_sublist _).length_le ?_
  rw [List.length_reverse]
  refine Nat.le_trans (List.dropWhile_sublist _).length_le ?_
  rw [List.length_reverse]
  exact Nat.le_refl _
theorem info116t : (Tryd.prog.info? (Tryd.lays160_ren.t 116)).map (fun i => (i.zero, i.size)) = some (some (.agg (Array.replicate 256 (.bool false))), 256) := by kernel_rfl
set_option maxHeartbeats 1000000 in
theorem trim_any (l : List UInt8) (w : World) (hl : l.length ≤ 1000000) :
    Calls Tryd.prog 52 #[.string (str l), .string ⟨#[32, 9]⟩] w fun e w' => e = .returned (.string (str (trm l))) ∧ Below w.heap.size w w' := by
  have hsz : (str l).size = l.length := str_size l
  by_cases h0 : l = []
  · subst h0
    have he : ((str []).toList == []) = true := by rw [toList_str]; rfl
    go_enter Tryd.func52, Tryd.ntmps52
    go_wp2
    go_ret
    exact ⟨rfl, Below.refl _ _⟩
  · have hpos := List.length_pos_iff.2 h0
    have hz := zero_of_info info116t
    have := Any.strings_Trim_set (ρ := Tryd.lays160_ren) Tryd.lays160 hz.1 hz.2 (str l) ⟨#[32, 9]⟩ w (by decide) (by omega) (by omega) (by decide) (by
      intro j b hj
      match j, hj with
      | 0, hj => simp at hj; subst hj; decide
      | 1, hj => simp at hj; subst hj; decide
      | j + 2, hj => simp at hj)
    refine Calls.mono this ?_
    rintro e w' ⟨rfl, q, rfl⟩
    refine ⟨rfl, ?_⟩
    exact below_drewN (((Below.refl _ _).alloc (Nat.le_refl _) _).alloc (by simp) _) q
#print axioms trim_any

def wU : List UInt8 := [117, 112, 103, 114, 97, 100, 101]
def wC : List UInt8 := [99, 111, 110, 110, 101, 99, 116, 105, 111, 110]
/-- A part that names an upgrade; a value that has one. -/
def isU (x : List UInt8) : Bool := sm (trm x) == wU
def hasU (v : List UInt8) : Bool := (spl 44 v).any isU

set_option maxHeartbeats 1000000 in
theorem up11 (l : List UInt8) (w : World) (hl : l.length ≤ 1000000) :
    Calls Tryd.prog 51 #[.string (str l)] w fun e w' => e = .returned (.bool (isU l)) ∧ Hid (Below w.heap.size w w') := by
  have hq : ((str (sm (trm l))).toList == [117, 112, 103, 114, 97, 100, 101]) = isU l := by rw [toList_str]; rfl
  have htl := Nat.le_trans (trm_len l) hl
  go_enter Tryd.func51, Tryd.ntmps51
  go_wp2_with (first
    | (go_at_call 52; refine (trim_any l w hl).mono ?_; rintro e w1 ⟨rfl, hb1⟩)
    | (go_at_call 23; refine (small_any (trm l) w1 htl).mono ?_; rintro e w2 ⟨rfl, hb2⟩))
  go_ret
  exact ⟨rfl, hb1.trans (hb2.mono hb1.size)⟩
set_option maxHeartbeats 4000000 in
theorem idx_u (p : Option Addr) (cp : Nat) (L : List (List UInt8)) (w : World) (h : NsR w p L) (hS : ∀ x ∈ L, x.length ≤ 1000000) (hl : L.length ≤ 1000001) :
    Calls Tryd.prog 63 #[.slice p L.length cp, .func (.func 51) #[] #[]] w fun e w' => ∃ r : Int, e = .returned (.int .i64 r) ∧ Hid (Below w.heap.size w w') ∧ Hid (decide (0 ≤ r) = L.any isU) := by
  have HS := hide h
  have HSL := hide hS
  clear h hS
  go_enter Tryd.func63, Tryd.ntmps63
  go_wp2
  go_loopw [8] (fun v wr => ∃ i : Nat, i ≤ L.length ∧ v = .int .i64 (i : Int) ∧ Hid (∀ j t, j < i → L[j]? = some t → isU t = false) ∧ Hid (Below w.heap.size w wr)) (fun v _ => L.length - (intOf v).toNat)
  case atStart => exact ⟨0, Nat.zero_le _, rfl, (fun j t hj => by omega), Below.refl _ _⟩
  case round =>
    obtain ⟨i, hi, rfl, hno, hb⟩ := hrel
    by_cases hlt : i < L.length
    · obtain ⟨s, hs⟩ : ∃ s, L[i]? = some s := ⟨_, List.getElem?_eq_getElem hlt⟩
      obtain ⟨b, hpe, c0⟩ := ((unhide HS).below (unhide hb) (Nat.le_refl _)) i s hs
      subst hpe
      have HSS := hide hs
      have hsl := unhide HSL s (List.mem_of_getElem? hs)
      have hi2 : (i : Int) < (L.length : Int) := by omega
      clear hs
      cases hk : isU s with
      | true =>
        have HK := hide hk
        clear hk
        go_wp2_with (go_at_call 51; refine (up11 s wr hsl).mono ?_; rintro e w2 ⟨rfl, hb2⟩; rw [HK.out])
        go_ret
        refine ⟨(i : Int), rfl, hb.out.trans (hb2.out.mono hb.out.size), ?_⟩
        show decide (0 ≤ (i : Int)) = _
        rw [decide_eq_true (by omega)]
        exact (List.any_eq_true.2 ⟨s, List.mem_of_getElem? (unhide HSS), unhide HK⟩).symm
      | false =>
        have HK := hide hk
        clear hk
        have HN2 : Hid (∀ j t, j < i + 1 → L[j]? = some t → isU t = false) := by
          intro j t hj ht
          by_cases e : j = i
          · subst e
            rw [unhide HSS] at ht
            cases ht
            exact unhide HK
          · exact unhide hno j t (by omega) ht
        go_wp2_with (go_at_call 51; refine (up11 s wr hsl).mono ?_; rintro e w2 ⟨rfl, hb2⟩; rw [HK.out])
        have HB2 := hide (hb.out.trans (hb2.out.mono hb.out.size))
        go_roundw
        case rel => exact ⟨i + 1, by omega, by go_num, HN2, HB2⟩
        case measure => simp [intOf]; omega
    · obtain rfl : i = L.length := by omega
      have hlt' : ¬ (L.length : Int) < (L.length : Int) := by omega
      have HA : Hid (L.any isU = false) := by
        show _ = _
        rw [List.any_eq_false]
        intro x hx
        obtain ⟨j, hj, e⟩ := List.mem_iff_getElem.1 hx
        have := unhide hno j x hj (by rw [List.getElem?_eq_getElem hj, e])
        rw [this]; decide
      clear hlt
      go_wp2
      go_ret
      refine ⟨-1, rfl, hb, ?_⟩
      show _ = _
      rw [unhide HA]; rfl
set_option maxHeartbeats 1000000 in
theorem con_u (p : Option Addr) (cp : Nat) (L : List (List UInt8)) (w : World) (h : NsR w p L) (hS : ∀ x ∈ L, x.length ≤ 1000000) (hl : L.length ≤ 1000001) :
    Calls Tryd.prog 48 #[.slice p L.length cp, .func (.func 51) #[] #[]] w fun e w' => e = .returned (.bool (L.any isU)) ∧ Hid (Below w.heap.size w w') := by
  have HX := hide (idx_u p cp L w h hS hl)
  clear h hS
  go_enter Tryd.func48, Tryd.ntmps48
  go_wp2_with (go_at_call 63; refine (unhide HX).mono ?_; rintro e w2 ⟨r, rfl, HB2, HR⟩)
  go_ret
  refine ⟨?_, HB2⟩
  rw [← HR.out]
  rfl
#print axioms con_u
set_option maxHeartbeats 1000000 in
theorem up1 (l : List UInt8) (w : World) (hl : l.length ≤ 1000000) (hm : Mx w) :
    Calls Tryd.prog 49 #[.string (str l)] w fun e w' => e = .returned (.bool (hasU l)) ∧ Hid (Below w.heap.size w w') := by
  have HSP := hide (split_any l w hl hm)
  have HCT : Hid ((spl 44 l).length ≤ 1000001) := by show _ ≤ _; rw [spl_num]; have : l.count 44 ≤ l.length := List.count_le_length; omega
  have HLN : Hid (∀ x ∈ spl 44 l, x.length ≤ 1000000) := fun x hx => Nat.le_trans (spl_len 44 l x hx) hl
  clear hm
  go_enter Tryd.func49, Tryd.ntmps49
  go_wp2_with (first
    | (go_at_call 50; refine (unhide HSP).mono ?_; rintro e w1 ⟨p, c, L, rfl, HL, HN, HB1⟩)
    | (go_at_call 48; refine (con_u p c L w1 (unhide HN) (by rw [HL.out]; exact unhide HLN) (by rw [HL.out]; exact unhide HCT)).mono ?_; rintro e w2 ⟨rfl, HB2⟩))
  go_ret
  exact ⟨by rw [unhide HL]; rfl, HB1.out.trans (HB2.out.mono HB1.out.size)⟩
set_option maxHeartbeats 4000000 in
theorem idx_v (p : Option Addr) (cp : Nat) (L : List (List UInt8)) (w : World) (h : NsR w p L) (hS : ∀ x ∈ L, x.length ≤ 1000000) (hl : L.length ≤ 1000001) (hm : Mx w) :
    Calls Tryd.prog 63 #[.slice p L.length cp, .func (.func 49) #[] #[]] w fun e w' => ∃ r : Int, e = .returned (.int .i64 r) ∧ Hid (Below w.heap.size w w') ∧ Hid (decide (0 ≤ r) = L.any hasU) := by
  have HS := hide h
  have HSL := hide hS
  have HM := hide hm
  clear hm
  clear h hS
  go_enter Tryd.func63, Tryd.ntmps63
  go_wp2
  go_loopw [8] (fun v wr => ∃ i : Nat, i ≤ L.length ∧ v = .int .i64 (i : Int) ∧ Hid (∀ j t, j < i → L[j]? = some t → hasU t = false) ∧ Hid (Below w.heap.size w wr)) (fun v _ => L.length - (intOf v).toNat)
  case atStart => exact ⟨0, Nat.zero_le _, rfl, (fun j t hj => by omega), Below.refl _ _⟩
  case round =>
    obtain ⟨i, hi, rfl, hno, hb⟩ := hrel
    by_cases hlt : i < L.length
    · obtain ⟨s, hs⟩ : ∃ s, L[i]? = some s := ⟨_, List.getElem?_eq_getElem hlt⟩
      obtain ⟨b, hpe, c0⟩ := ((unhide HS).below (unhide hb) (Nat.le_refl _)) i s hs
      subst hpe
      have HSS := hide hs
      have hsl := unhide HSL s (List.mem_of_getElem? hs)
      have hi2 : (i : Int) < (L.length : Int) := by omega
      clear hs
      cases hk : hasU s with
      | true =>
        have HK := hide hk
        clear hk
        go_wp2_with (go_at_call 49; refine (up1 s wr hsl ((unhide HM).below (unhide hb) (Nat.le_refl _))).mono ?_; rintro e w2 ⟨rfl, hb2⟩; rw [HK.out])
        go_ret
        refine ⟨(i : Int), rfl, hb.out.trans (hb2.out.mono hb.out.size), ?_⟩
        show decide (0 ≤ (i : Int)) = _
        rw [decide_eq_true (by omega)]
        exact (List.any_eq_true.2 ⟨s, List.mem_of_getElem? (unhide HSS), unhide HK⟩).symm
      | false =>
        have HK := hide hk
        clear hk
        have HN2 : Hid (∀ j t, j < i + 1 → L[j]? = some t → hasU t = false) := by
          intro j t hj ht
          by_cases e : j = i
          · subst e
            rw [unhide HSS] at ht
            cases ht
            exact unhide HK
          · exact unhide hno j t (by omega) ht
        go_wp2_with (go_at_call 49; refine (up1 s wr hsl ((unhide HM).below (unhide hb) (Nat.le_refl _))).mono ?_; rintro e w2 ⟨rfl, hb2⟩; rw [HK.out])
        have HB2 := hide (hb.out.trans (hb2.out.mono hb.out.size))
        go_roundw
        case rel => exact ⟨i + 1, by omega, by go_num, HN2, HB2⟩
        case measure => simp [intOf]; omega
    · obtain rfl : i = L.length := by omega
      have hlt' : ¬ (L.length : Int) < (L.length : Int) := by omega
      have HA : Hid (L.any hasU = false) := by
        show _ = _
        rw [List.any_eq_false]
        intro x hx
        obtain ⟨j, hj, e⟩ := List.mem_iff_getElem.1 hx
        have := unhide hno j x hj (by rw [List.getElem?_eq_getElem hj, e])
        rw [this]; decide
      clear hlt
      go_wp2
      go_ret
      refine ⟨-1, rfl, hb, ?_⟩
      show _ = _
      rw [unhide HA]; rfl
set_option maxHeartbeats 1000000 in
theorem con_v (p : Option Addr) (cp : Nat) (L : List (List UInt8)) (w : World) (h : NsR w p L) (hS : ∀ x ∈ L, x.length ≤ 1000000) (hl : L.length ≤ 1000001) (hm : Mx w) :
    Calls Tryd.prog 48 #[.slice p L.length cp, .func (.func 49) #[] #[]] w fun e w' => e = .returned (.bool (L.any hasU)) ∧ Hid (Below w.heap.size w w') := by
  have HX := hide (idx_v p cp L w h hS hl hm)
  clear h hS
  go_enter Tryd.func48, Tryd.ntmps48
  go_wp2_with (go_at_call 63; refine (unhide HX).mono ?_; rintro e w2 ⟨r, rfl, HB2, HR⟩)
  go_ret
  refine ⟨?_, HB2⟩
  rw [← HR.out]
  rfl
#print axioms con_v
/-- Does a field connection name an upgrade? -/
def upH (H : List Hd) : Bool := (vals wC H).any hasU
set_option maxHeartbeats 1000000 in
theorem upgr_any (p : Option Addr) (cp : Nat) (H : List Hd) (w : World) (h : HdR w p H) (hS : HdS H) (hl : H.length ≤ 1000000) (hm : Mx w) :
    Calls Tryd.prog 24 #[.slice p H.length cp] w fun e w' => e = .returned (.bool (upH H)) ∧ Hid (Below w.heap.size w w') := by
  have HV := hide (values_any wC (by decide) (by decide) p cp H w h hS hl)
  have HM := hide hm
  have HLN : Hid (∀ x ∈ vals wC H, x.length ≤ 1000000) := by
    intro x hx
    obtain ⟨d, hd, rfl⟩ := List.mem_map.1 hx
    obtain ⟨j, hj, e⟩ := List.mem_iff_getElem.1 (List.mem_filter.1 hd).1
    exact (hS j d (by rw [List.getElem?_eq_getElem hj, e])).2
  have HCT : Hid ((vals wC H).length ≤ 1000001) := by
    show _ ≤ _
    unfold vals
    rw [List.length_map]
    exact Nat.le_trans (List.length_filter_le _ _) (by omega)
  clear h hS hm
  go_enter Tryd.func24, Tryd.ntmps24
  go_wp2_with (first
    | (go_at_call 47; refine (unhide HV).mono ?_; rintro e w1 ⟨a, c, L, rfl, HL, HO, HB1⟩)
    | (go_at_call 48; refine (con_v a c L w1 (unhide HO).toNsR (by rw [HL.out]; exact unhide HLN) (by rw [HL.out]; exact unhide HCT) ((unhide HM).below (unhide HB1) (Nat.le_refl _))).mono ?_; rintro e w2 ⟨rfl, HB2⟩))
  go_ret
  exact ⟨by rw [unhide HL]; rfl, HB1.out.trans (HB2.out.mono HB1.out.size)⟩
#print axioms upgr_any
end Go.Proofs.YtegbcjfceooflaaDoor
end
section
set_option linter.unusedVariables false
namespace Go.Proofs.YtegbcjfceooflaaDoor
open Go.RowKit

theorem spl_last (c : UInt8) : ∀ l : List UInt8, (∀ x ∈ l, x ≠ c) → spl c l = [l]
  | [], _ => rfl
  | b :: l, h => by
    have ih := spl_last c l (fun x hx => h x (by simp [hx]))
    unfold spl
    rw [if_neg (h b (by simp)), ih]
theorem spl_head (c : UInt8) (r : List UInt8) : ∀ l : List UInt8, (∀ x ∈ l, x ≠ c) → spl c (l ++ c :: r) = l :: spl c r
  | [], _ => by simp [spl]
  | b :: l, h => by
    have ih := spl_head c r l (fun x hx => h x (by simp [hx]))
    rw [List.cons_append]
    conv => lhs; unfold spl
    rw [if_neg (h b (by simp)), ih]

/-- Off the right end. -/
def trR (l : List UInt8) : List UInt8 := (l.reverse.dropWhile bl2).reverse
theorem trR_cons (x : UInt8) (t : List UInt8) : trR (x :: t) = if (trR t).isEmpty then (if bl2 x then [] else [x]) else x :: trR t := by
  unfold trR
  rw [List.reverse_cons, List.dropWhile_append]
  by_cases h : (t.reverse.dropWhile bl2).isEmpty
  · rw [if_pos h, if_pos (by simpa using h)]
    cases hx : bl2 x <;> simp [List.dropWhile, hx]
  · rw [if_neg h, if_neg (by simpa using h)]
    simp
theorem trm_swap : ∀ l : List UInt8, (trR l).dropWhile bl2 = trR (l.dropWhile bl2)
  | [] => rfl
  | x :: t => by
    have ih := trm_swap t
    rw [trR_cons]
    cases hx : bl2 x with
    | true =>
      rw [List.dropWhile_cons_of_pos hx, ← ih]
      by_cases h : (trR t).isEmpty
      · rw [if_pos h]
        have : trR t = [] := by simpa using h
        simp [this]
      · rw [if_neg h, List.dropWhile_cons_of_pos hx]
    | false =>
      rw [List.dropWhile_cons_of_neg (by simp [hx]), trR_cons, hx]
      by_cases h : (trR t).isEmpty
      · rw [if_pos h]
        simp [hx]
      · rw [if_neg h, List.dropWhile_cons_of_neg (by simp [hx])]
theorem trm_eq (l : List UInt8) : trm l = trR (l.dropWhile bl2) := (trm_swap l).symm ▸ rfl
#print axioms trm_eq
end Go.Proofs.YtegbcjfceooflaaDoor
end
section
set_option linter.unusedVariables false
set_option maxRecDepth 1000000
namespace Go.Proofs.YtegbcjfceooflaaDoor
open Go.RowKit

def stL : Value → Nat
  | .string s => s.size
  | _ => 0
theorem cutmid (s : List UInt8) (a b : Nat) : (str s).extract a b = str ((s.drop a).take (b - a)) := by
  apply ByteArray.ext
  apply Array.ext'
  simp [str, ByteArray.data_extract]
theorem bl2_is (x : UInt8) : bl2 x = (((x.toNat : Int) == 32) || ((x.toNat : Int) == 9)) := by
  have key : ∀ n : Fin 256, bl2 (UInt8.ofNat n.val) = (((n.val : Int) == 32) || ((n.val : Int) == 9)) := by decide +kernel
  have := key ⟨x.toNat, x.toNat_lt⟩
  rwa [show UInt8.ofNat x.toNat = x from UInt8.ofNat_toNat] at this
theorem trR_snoc_t (l : List UInt8) (x : UInt8) (h : bl2 x = true) : trR (l ++ [x]) = trR l := by
  unfold trR; rw [List.reverse_append]; simp [h]
theorem trR_snoc_f (l : List UInt8) (x : UInt8) (h : bl2 x = false) : trR (l ++ [x]) = l ++ [x] := by
  unfold trR; rw [List.reverse_append]; simp [h]
/-- What the text says behind a place at which a part ends. -/
theorem part_step (l : List UInt8) (A I : Nat) (hA : A ≤ I) (hI : I ≤ l.length) (h0 : hasU l = (spl 44 (l.drop A)).any isU) (h1 : ∀ x ∈ (l.drop A).take (I - A), x ≠ 44)
    (h2 : I = l.length ∨ l[I]? = some 44) : ∃ r, hasU l = (isU ((l.drop A).take (I - A)) || r) ∧ (I < l.length → r = (spl 44 (l.drop (I + 1))).any isU) ∧ (l.length ≤ I → r = false) := by
  by_cases hlt : I < l.length
  · have hx : l[I]? = some 44 := by rcases h2 with h | h; omega; exact h
    refine ⟨(spl 44 (l.drop (I + 1))).any isU, ?_, fun _ => rfl, fun h => by omega⟩
    have e : l.drop A = (l.drop A).take (I - A) ++ 44 :: l.drop (I + 1) := by
      have hx2 : l[I] = 44 := by rw [List.getElem?_eq_getElem hlt] at hx; exact Option.some.inj hx
      have : (l.drop A).drop (I - A) = 44 :: l.drop (I + 1) := by
        rw [List.drop_drop, show A + (I - A) = I by omega, List.drop_eq_getElem_cons hlt, hx2]
      conv => lhs; rw [← List.take_append_drop (I - A) (l.drop A), this]
    rw [h0, e, spl_head 44 _ _ h1]
    rw [← e]
    simp
  · obtain rfl : I = l.length := by omega
    refine ⟨false, ?_, fun h => by omega, fun _ => rfl⟩
    have e : (l.drop A).take (l.length - A) = l.drop A := by rw [List.take_of_length_le (by simp)]
    rw [e] at h1 ⊢
    rw [h0, spl_last 44 _ h1]
    simp
theorem seen_step (l : List UInt8) (A I : Nat) (x : UInt8) (hA : A ≤ I) (hx : l[I]? = some x) (hn : x ≠ 44) (h1 : ∀ x ∈ (l.drop A).take (I - A), x ≠ 44) : ∀ x ∈ (l.drop A).take (I + 1 - A), x ≠ 44 := by
  have hlt := (List.getElem?_eq_some_iff.1 hx).1
  rw [show I + 1 - A = (I - A) + 1 by omega, List.take_succ_eq_append_getElem (by simp; omega)]
  intro y hy
  rcases List.mem_append.1 hy with h | h
  · exact h1 y h
  · have : y = x := by
      rw [List.mem_singleton.1 h, List.getElem_drop]
      have := (List.getElem?_eq_some_iff.1 hx).2
      rw [← this]; congr 1; omega
    rw [this]; exact hn

set_option maxHeartbeats 8000000 in
theorem rlisted_any (l : List UInt8) (w : World) (hl : l.length ≤ 1000000) :
    Calls Tryd.prog 27 #[.string (str l), .string ⟨#[117, 112, 103, 114, 97, 100, 101]⟩] w fun e w' => e = .returned (.bool (hasU l)) ∧ Hid (Below w.heap.size w w') := by
  have hsz : (str l).size = l.length := str_size l
  go_enter Tryd.func27, Tryd.ntmps27
  go_wp2
  go_loopw [5, 6] (fun at' i wr => ∃ (A I : Nat), at' = .int .i64 (A : Int) ∧ i = .int .i64 (I : Int) ∧ I ≤ l.length + 1 ∧ A ≤ I ∧ Hid (I ≤ l.length → hasU l = (spl 44 (l.drop A)).any isU ∧ ∀ x ∈ (l.drop A).take (I - A), x ≠ 44) ∧ Hid (l.length < I → hasU l = false) ∧ Hid (Below w.heap.size w wr)) (fun _ i _ => l.length + 1 - (intOf i).toNat)
  case atStart => exact ⟨0, 0, rfl, rfl, by omega, Nat.le_refl _, fun _ => ⟨by rw [List.drop_zero]; rfl, by simp⟩, fun h => absurd h (by omega), Below.refl _ _⟩
  case round =>
    obtain ⟨A, I, rfl, rfl, hI, hA, HS, HE, HB⟩ := hrel
    by_cases hle : I ≤ l.length
    · have hle' : (I : Int) ≤ (l.length : Int) := by omega
      by_cases hc : I < l.length ∧ l[I]? ≠ some 44
      · obtain ⟨hlt, hne⟩ := hc
        have hlt' : (I : Int) < (l.length : Int) := by omega
        obtain ⟨x, hx⟩ : ∃ x, l[I]? = some x := ⟨_, List.getElem?_eq_getElem hlt⟩
        have hxn : x ≠ 44 := fun e => hne (by rw [hx, e])
        have hg : l.getD I 0 = x := by rw [List.getD_eq_getElem?_getD, hx]; rfl
        have hix : ∀ w, (Instr.index 9 (.string (str l)) (.int .i64 (I : Int))).run Tryd.prog w = .ok (.int .u8 (x.toNat : Int)) w := fun w => by rw [← hg]; exact run_ixs w l I hlt
        have h44 : ((x.toNat : Int) != 44) = true := by
          have : x.toNat ≠ 44 := fun e => hxn (UInt8.toNat_inj.1 e)
          simp; omega
        have HS2 : Hid (I + 1 ≤ l.length → hasU l = (spl 44 (l.drop A)).any isU ∧ ∀ x ∈ (l.drop A).take (I + 1 - A), x ≠ 44) := fun _ => ⟨(unhide HS hle).1, seen_step l A I x hA hx hxn (unhide HS hle).2⟩
        clear hne hx hg hlt
        go_wp2
        go_roundw
        case rel => exact ⟨A, I + 1, rfl, by go_num, by omega, by omega, HS2, (fun h => absurd h (by omega)), HB⟩
        case measure => simp [intOf]; omega
      · have h2 : I = l.length ∨ l[I]? = some 44 := by
          by_cases h : I < l.length
          · right; by_cases h3 : l[I]? = some 44; exact h3; exact absurd ⟨h, h3⟩ hc
          · left; omega
        obtain ⟨r, hr1, hr2, hr3⟩ := part_step l A I hA hle (unhide HS hle).1 (unhide HS hle).2 h2
        obtain ⟨P, hP⟩ : ∃ P, (l.drop A).take (I - A) = P := ⟨_, rfl⟩
        have hPl : P.length ≤ 1000000 := by rw [← hP, List.length_take, List.length_drop]; omega
        have hex : (str l).extract A I = str P := by rw [cutmid, hP]
        have HPr : Hid (hasU l = (isU P || r)) := by rw [hP] at hr1; exact hr1
        have HPT : Hid (I + 1 ≤ l.length → hasU l = (isU P || (spl 44 (l.drop (I + 1))).any isU)) := by intro h; show _ = _; rw [← hr2 (by omega)]; exact unhide HPr
        have HR3 : Hid (l.length < I + 1 → hasU l = isU P) := by intro h; have := unhide HPr; rw [hr3 (by omega), Bool.or_false] at this; exact this
        have h3 : ¬ (I : Int) < (l.length : Int) ∨ ∃ hw : (I : Int) < (l.length : Int), ∀ w, (Instr.index 9 (.string (str l)) (.int .i64 (I : Int))).run Tryd.prog w = .ok (.int .u8 44) w := by
          rcases h2 with h | h
          · left; omega
          · right
            have hlt := (List.getElem?_eq_some_iff.1 h).1
            have hg : l.getD I 0 = 44 := by rw [List.getD_eq_getElem?_getD, h]; rfl
            refine ⟨by omega, fun w => ?_⟩
            have := run_ixs w l I hlt
            rw [hg] at this
            exact this
        clear hr1 hr2 hr3 h2 hc hP HS HE
        rcases h3 with h3 | ⟨h3, hix⟩
        case' inl => go_upto_region 7 with fail
        case' inr => (go_upto_region 7 with fail); clear hix
        all_goals
          go_wp2
          clear hex
          go_loop [7] (fun v => ∃ Q : List UInt8, v = .string (str Q) ∧ Q.length ≤ P.length ∧ Hid (Q.dropWhile bl2 = P.dropWhile bl2)) (fun v => stL v)
          case atStart => exact ⟨P, rfl, Nat.le_refl _, rfl⟩
          case round =>
            obtain ⟨Q, rfl, hQl, HQ⟩ := hrel
            have hqz : (str Q).size = Q.length := str_size Q
            by_cases hb0 : ∃ x t, Q = x :: t ∧ bl2 x = true
            · obtain ⟨x, t, hQ, hx⟩ := hb0
              have hpos : 0 < (Q.length : Int) := by rw [hQ]; simp
              have hp1 : 1 ≤ Q.length := by omega
              have hix : ∀ w, (Instr.index 9 (.string (str Q)) (.int .i64 0)).run Tryd.prog w = .ok (.int .u8 (x.toNat : Int)) w := fun w => by
                have := run_ixs w Q 0 (by omega)
                rw [hQ] at this ⊢
                exact this
              have hex2 : (str Q).extract 1 Q.length = str t := by rw [cut_from, hQ]; rfl
              have HT2 : Hid (t.length < Q.length ∧ t.dropWhile bl2 = P.dropWhile bl2) := by
                refine ⟨by rw [hQ]; simp, ?_⟩
                rw [← unhide HQ, hQ, List.dropWhile_cons_of_pos hx]
              have htz : (str t).size = t.length := str_size t
              rw [bl2_is] at hx
              clear hQ
              cases hx1 : ((x.toNat : Int) == 32) with
              | true =>
                clear hx
                go_wp2
                go_round
                case rel => exact ⟨t, rfl, by have := (unhide HT2).1; omega, (unhide HT2).2⟩
                case measure => simp [stL]; have := (unhide HT2).1; omega
              | false =>
                have hx2 : ((x.toNat : Int) == 9) = true := by rw [hx1] at hx; simpa using hx
                clear hx
                go_wp2
                go_round
                case rel => exact ⟨t, rfl, by have := (unhide HT2).1; omega, (unhide HT2).2⟩
                case measure => simp [stL]; have := (unhide HT2).1; omega
            · have HQ2 : Hid (Q = P.dropWhile bl2) := by
                show _ = _
                rw [← unhide HQ]
                cases Q with
                | nil => rfl
                | cons x t => rw [List.dropWhile_cons_of_neg (fun e => hb0 ⟨x, t, rfl, e⟩)]
              have h4 : ¬ (0 : Int) < (Q.length : Int) ∨ (∃ x : UInt8, ∃ h : (0 : Int) < (Q.length : Int), ((x.toNat : Int) == 32) = false ∧ ((x.toNat : Int) == 9) = false ∧ ∀ w, (Instr.index 9 (.string (str Q)) (.int .i64 0)).run Tryd.prog w = .ok (.int .u8 (x.toNat : Int)) w) := by
                cases hQ : Q with
                | nil => left; simp
                | cons x t =>
                  right
                  have hx : bl2 x = false := by cases e : bl2 x; rfl; exact absurd ⟨x, t, hQ, e⟩ hb0
                  rw [bl2_is, Bool.or_eq_false_iff] at hx
                  exact ⟨x, by simp, hx.1, hx.2, fun w => run_ixs w (x :: t) 0 (by simp)⟩
              clear hb0
              rcases h4 with h4 | ⟨x, h4, hx1, hx2, hix⟩
              case' inl => go_wp2
              case' inr => go_wp2; clear hix hx1 hx2
              all_goals
                clear h4
                go_loop [7] (fun v => ∃ R : List UInt8, v = .string (str R) ∧ R.length ≤ 1000000 ∧ Hid (trR R = trR Q)) (fun v => stL v)
                case atStart => exact ⟨Q, rfl, by omega, rfl⟩
                case round =>
                  obtain ⟨R, rfl, hRl, HR⟩ := hrel
                  have hrz : (str R).size = R.length := str_size R
                  by_cases hb0 : ∃ t x, R = t ++ [x] ∧ bl2 x = true
                  · obtain ⟨t, x, hR, hx⟩ := hb0
                    have hpos : 0 < (R.length : Int) := by rw [hR]; simp
                    have hp1 : 1 ≤ R.length := by omega
                    have hix : ∀ w, (Instr.index 9 (.string (str R)) (.int .i64 ((R.length : Int) - 1))).run Tryd.prog w = .ok (.int .u8 (x.toNat : Int)) w := fun w => by
                      have := run_ixs w R (R.length - 1) (by omega)
                      rw [show ((R.length - 1 : Nat) : Int) = (R.length : Int) - 1 by omega] at this
                      rw [this]
                      rw [hR]
                      simp
                    have hex2 : (str R).extract 0 (R.length - 1) = str t := by rw [cutmid, hR]; simp
                    have HT2 : Hid (t.length < R.length ∧ trR t = trR Q) := by
                      refine ⟨by rw [hR]; simp, ?_⟩
                      rw [← unhide HR, hR, trR_snoc_t t x hx]
                    have htz : (str t).size = t.length := str_size t
                    rw [bl2_is] at hx
                    clear hR
                    cases hx1 : ((x.toNat : Int) == 32) with
                    | true =>
                      clear hx
                      go_wp2
                      go_round
                      case rel => exact ⟨t, rfl, by have := (unhide HT2).1; omega, (unhide HT2).2⟩
                      case measure => simp [stL]; have := (unhide HT2).1; omega
                    | false =>
                      have hx2 : ((x.toNat : Int) == 9) = true := by rw [hx1] at hx; simpa using hx
                      clear hx
                      go_wp2
                      go_round
                      case rel => exact ⟨t, rfl, by have := (unhide HT2).1; omega, (unhide HT2).2⟩
                      case measure => simp [stL]; have := (unhide HT2).1; omega
                  · have HR2 : Hid (R = trm P) := by
                      show _ = _
                      rw [trm_eq, ← unhide HQ2, ← unhide HR]
                      rcases List.eq_nil_or_concat R with rfl | ⟨t, x, hR⟩
                      · rfl
                      · rw [List.concat_eq_append] at hR
                        rw [hR, trR_snoc_f t x (by cases e : bl2 x; rfl; exact absurd ⟨t, x, hR, e⟩ hb0)]
                    have h5 : ¬ (0 : Int) < (R.length : Int) ∨ (∃ x : UInt8, ∃ h : (0 : Int) < (R.length : Int), ((x.toNat : Int) == 32) = false ∧ ((x.toNat : Int) == 9) = false ∧ ∀ w, (Instr.index 9 (.string (str R)) (.int .i64 ((R.length : Int) - 1))).run Tryd.prog w = .ok (.int .u8 (x.toNat : Int)) w) := by
                      rcases List.eq_nil_or_concat R with hR | ⟨t, x, hR⟩
                      · left; rw [hR]; simp
                      · right
                        rw [List.concat_eq_append] at hR
                        have hx : bl2 x = false := by cases e : bl2 x; rfl; exact absurd ⟨t, x, hR, e⟩ hb0
                        rw [bl2_is, Bool.or_eq_false_iff] at hx
                        have hpos : 0 < R.length := by rw [hR]; simp
                        refine ⟨x, by omega, hx.1, hx.2, fun w => ?_⟩
                        have := run_ixs w R (R.length - 1) (by omega)
                        rw [show ((R.length - 1 : Nat) : Int) = (R.length : Int) - 1 by omega] at this
                        rw [this]
                        rw [hR]
                        simp
                    obtain ⟨q, hq⟩ : ∃ q, isU P = q := ⟨_, rfl⟩
                    have hq2 : ((str (sm R)).toList == [117, 112, 103, 114, 97, 100, 101]) = q := by rw [toList_str, ← hq, unhide HR2]; rfl
                    rw [hq] at HPr HPT HR3
                    clear hb0 hq
                    rcases h5 with h5 | ⟨x, h5, hx1, hx2, hix⟩
                    all_goals
                      cases q with
                      | true =>
                        go_wp2_with (go_at_call 26; refine (rsmall_any R wr hRl).mono ?_; rintro e w3 ⟨rfl, hb3⟩)
                        go_ret
                        exact ⟨by rw [unhide HPr]; rfl, (unhide HB).trans (hb3.mono (unhide HB).size)⟩
                      | false =>
                        go_wp2_with (go_at_call 26; refine (rsmall_any R wr hRl).mono ?_; rintro e w3 ⟨rfl, hb3⟩)
                        have HB4 := hide ((unhide HB).trans (hb3.mono (unhide HB).size))
                        go_roundw
                        case rel => exact ⟨I + 1, I + 1, by go_num, by go_num, by omega, Nat.le_refl _, (fun h => ⟨by have := unhide ‹Hid (I + 1 ≤ l.length → _)› h; simpa using this, by simp⟩), ‹Hid (l.length < I + 1 → _)›, HB4⟩
                        case measure => simp [intOf]; omega
    · have hle' : ¬ (I : Int) ≤ (l.length : Int) := by omega
      have HF : Hid (hasU l = false) := unhide HE (by omega)
      clear hle
      go_wp2
      go_ret
      exact ⟨by rw [unhide HF]; rfl, HB⟩
#print axioms rlisted_any
end Go.Proofs.YtegbcjfceooflaaDoor
end
section
set_option linter.unusedVariables false
set_option maxRecDepth 1000000
namespace Go.Proofs.YtegbcjfceooflaaDoor
open Go.RowKit

def lastv (L : List (List UInt8)) : List UInt8 := L.getLast?.getD []
theorem lastv_snoc (L : List (List UInt8)) (x : List UInt8) : lastv (L ++ [x]) = x := by simp [lastv]
set_option maxHeartbeats 4000000 in
theorem rjust_any (nm : List UInt8) (p : Option Addr) (cp : Nat) (H : List Hd) (w : World) (h : HdR w p H) (hS : HdS H) (hl : H.length ≤ 1000000) :
    Calls Tryd.prog 25 #[.slice p H.length cp, .string (str nm)] w fun e w' => e = .returned (.tuple #[.string (str (lastv (vals nm H))), .bool (decide ((vals nm H).length = 1))]) ∧ Hid (Below w.heap.size w w') := by
  have HH := hide h
  have HSS := hide hS
  clear h hS
  go_enter Tryd.func25, Tryd.ntmps25
  go_wp2
  go_loopw [6, 7, 12] (fun v n i wr => ∃ k : Nat, k ≤ H.length ∧ i = .int .i64 (k : Int) ∧ ∃ (s : List UInt8) (c : Nat), v = .string (str s) ∧ n = .int .i64 (c : Int) ∧ c ≤ k ∧ Hid (s = lastv (valsTo nm H k)) ∧ Hid (c = (valsTo nm H k).length) ∧ Hid (Below w.heap.size w wr)) (fun _ _ i _ => H.length - (intOf i).toNat)
  case atStart => exact ⟨0, Nat.zero_le _, rfl, [], 0, rfl, rfl, Nat.le_refl _, rfl, rfl, Below.refl _ _⟩
  case round =>
    obtain ⟨k, hk, rfl, s, c, rfl, rfl, hck, HL, HC, HB⟩ := hrel
    by_cases hlt : k < H.length
    · obtain ⟨d, hd⟩ : ∃ d, H[k]? = some d := ⟨_, List.getElem?_eq_getElem hlt⟩
      obtain ⟨b, off, hpe, hc⟩ := ((unhide HH).below (unhide HB) (Nat.le_refl _)).mem (by intro e; subst e; simp at hd)
      subst hpe
      obtain ⟨c0, c1⟩ := hc k d hd
      have hs := unhide HSS k d hd
      have HST := hide (vals_step nm H k d hd)
      have hlt' : (k : Int) < (H.length : Int) := by omega
      obtain ⟨wd, hwd⟩ : ∃ wd, wd = wr.alloc (.cells #[.string (str d.1), .string (str d.2)] 40) := ⟨_, rfl⟩
      have hbd : Below wr.heap.size wr wd := by rw [hwd]; exact (Below.refl _ _).alloc (Nat.le_refl _) _
      have hZ : wd.heap[wr.heap.size]? = some (.cells #[.string (str d.1), .string (str d.2)] 40 (0, 0)) := by rw [hwd]; exact heap_alloc_new wr _
      have z0 : wd.cell? ⟨wr.heap.size, 0, none⟩ = some (.string (str d.1)) := by rw [cell_of_row wd wr.heap.size 0 _ _ _ hZ]; rfl
      have HZ := hide hZ
      have HBd := hide ((unhide HB).trans (hbd.mono (unhide HB).size))
      have hwl : wr.heap.size < wd.heap.size := (Array.getElem?_eq_some_iff.1 hZ).1
      clear hc hd hbd hZ HB
      go_upto_region 5 with fail
      rw [← hwd]
      clear hwd c0 c1
      obtain ⟨q, hq⟩ : ∃ q, (sm d.1 == nm) = q := ⟨_, rfl⟩
      have hq2 : ((str (sm d.1)).toList == (str nm).toList) = q := by rw [str_beq, hq]
      have HQ := hide hq
      clear hq
      cases q with
      | false =>
        have HE : Hid (valsTo nm H (k + 1) = valsTo nm H k) := by
          show _ = _
          rw [unhide HST, if_neg (by intro e; have := unhide HQ; rw [e] at this; simp at this)]
        go_wp2_with (go_at_call 26; refine (rsmall_any d.1 wd hs.1).mono ?_; rintro e w3 ⟨rfl, hb3⟩; have HB3 := hide hb3; clear hb3)
        have HB4 := hide ((unhide HBd).trans ((unhide HB3).mono (unhide HBd).size))
        go_roundw
        case rel => exact ⟨k + 1, by omega, by go_num, s, c, rfl, rfl, by omega, by show _ = _; rw [unhide HE]; exact unhide HL, by show _ = _; rw [unhide HE]; exact unhide HC, HB4⟩
        case measure => simp [intOf]; omega
      | true =>
        have HE : Hid (valsTo nm H (k + 1) = valsTo nm H k ++ [d.2]) := by
          show _ = _
          rw [unhide HST, if_pos (by simpa using unhide HQ)]
        go_upto_region 6 with (go_at_call 26; refine (rsmall_any d.1 wd hs.1).mono ?_; rintro e w3 ⟨rfl, hb3⟩; have HB3 := hide hb3; clear hb3)
        have HB4 := hide ((unhide HBd).trans ((unhide HB3).mono (unhide HBd).size))
        have hZ3 := ((unhide HB3).block _ hwl).trans (unhide HZ)
        have z1 : w3.cell? ⟨wr.heap.size, 1, none⟩ = some (.string (str d.2)) := by rw [cell_of_row w3 wr.heap.size 1 _ _ _ hZ3]; rfl
        clear hZ3
        go_wp2
        go_roundw
        case rel => exact ⟨k + 1, by omega, by go_num, d.2, c + 1, rfl, by go_num, by omega, by show _ = _; rw [unhide HE, lastv_snoc], by show _ = _; rw [unhide HE, List.length_append, ← unhide HC]; rfl, HB4⟩
        case measure => simp [intOf]; omega
    · have hlt' : ¬ (k : Int) < (H.length : Int) := by omega
      have HV : Hid (valsTo nm H k = vals nm H) := by
        show _ = _
        unfold valsTo
        rw [List.take_of_length_le (by omega)]
      have hc1 : ((c : Int) == 1) = decide ((vals nm H).length = 1) := by
        rw [← unhide HV, ← unhide HC]
        by_cases e : c = 1
        · subst e; rfl
        · rw [decide_eq_false e, beq_eq_false_iff_ne]; omega
      have HS2 : Hid (s = lastv (vals nm H)) := by show _ = _; rw [← unhide HV]; exact unhide HL
      clear hlt
      go_wp2
      go_ret2
      exact ⟨by rw [unhide HS2]; rfl, HB⟩
#print axioms rjust_any
end Go.Proofs.YtegbcjfceooflaaDoor
end
