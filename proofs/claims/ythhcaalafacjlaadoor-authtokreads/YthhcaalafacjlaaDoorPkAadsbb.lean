/-
  authtok: THE WALKS of the document's own Name, claim, token and Check.; authtok: THE WALKS of the document's own claim, token and Make.; authtok: THE WALKS of the document's own Check and Make.; authtok: THE WALKS of the document's own Make, and of the statements' same.; authtok: what is signed can be read, and the other way round.
-/
import Derived.Test.YthhcaalafacjlaaDoorPkAadsax
import Derived.Test.YthhcaalafacjlaaDoorPkAadsam
import Derived.Test.YthhcaalafacjlaaDoorPkAadsaq
import Derived.Test.YthhcaalafacjlaaDoorPkAadsba
import Derived.Deep.QuietTactic
import Derived.BigQuiet
import Derived.Test.YthhcaalafacjlaaDoorPkAadsao
section
set_option linter.unusedVariables false
set_option maxRecDepth 1000000
namespace Go.Proofs.YthhcaalafacjlaaDoor
open Go.RowKit

theorem u8_is (c d : UInt8) : (c == d) = decide (c.toNat = d.toNat) := by
  rw [Bool.eq_iff_iff, beq_iff_eq, decide_eq_true_eq, UInt8.toNat_inj]
set_option maxHeartbeats 4000000 in
theorem rname_any (s : List UInt8) (w : World) (hs : s.length ≤ 100000) :
    Calls Tryd.prog 13 #[.string (str s)] w fun e w' => e = .returned (.bool (nmOk s)) ∧ w' = w := by
  have hsz : (str s).size = s.length := str_size s
  have hidx : ∀ i : Nat, i < s.length → ∀ w : World, (Instr.index 9 (.string (str s)) (.int .i64 (i : Int))).run Tryd.prog w = .ok (.int .u8 ((s.getD i 0).toNat : Int)) w := by
    intro i hi w
    exact run_ixs w s i _ (by rw [List.getD_eq_getElem?_getD, List.getElem?_eq_getElem hi]; rfl)
  have HX := hide hidx
  obtain ⟨B, hB⟩ : ∃ B, nmOk s = B := ⟨_, rfl⟩
  rw [hB]
  have HB := hide hB
  clear hidx hB
  go_enter Tryd.func13, Tryd.ntmps13
  go_wp2
  go_loopw [8] (fun v wr => ∃ i : Nat, i ≤ s.length ∧ v = .int .i64 (i : Int) ∧ Hid ((s.take i).all nmB = true) ∧ wr = w) (fun v _ => s.length - (intOf v).toNat)
  case atStart => exact ⟨0, Nat.zero_le _, rfl, (by show _ = _; simp), rfl⟩
  case round =>
    obtain ⟨i, hi, rfl, ha, rfl⟩ := hrel
    by_cases hlt : i < s.length
    · have hx := HX.out i hlt
      have HS : Hid (s.take (i + 1) = s.take i ++ [s.getD i 0]) := by show _ = _; rw [List.take_add_one]; simp [hlt]
      have HM : Hid (s.getD i 0 ∈ s) := by show _ ∈ _; simp [hlt]
      have hi2 : (i : Int) < (s.length : Int) := by omega
      generalize s.getD i 0 = c at *
      have hn := nmB_nat c c.toNat rfl
      have c46 := u8_is c 46
      have c45 := u8_is c 45
      have c95 := u8_is c 95
      rw [show (46 : UInt8).toNat = 46 from rfl] at c46
      rw [show (45 : UInt8).toNat = 45 from rfl] at c45
      rw [show (95 : UInt8).toNat = 95 from rfl] at c95
      rw [c46, c45, c95] at hn
      have hcl := c.toNat_lt
      have HGO : Hid (nmB c = true → (s.take (i + 1)).all nmB = true) := fun hc => by rw [HS.out, List.all_append, ha.out]; simp [hc]
      have HST : Hid (nmB c = false → B = false) := fun hc => by
        rw [← HB.out]
        unfold nmOk
        rw [show s.all nmB = false from by rw [List.all_eq_false]; exact ⟨c, HM.out, by rw [hc]; simp⟩]
        simp
      clear c46 c45 c95 HS HM ha
      generalize c.toNat = X at *
      generalize nmB c = q at *
      have HN := hide hn
      clear hn
      by_cases y0 : 97 ≤ X ∧ X ≤ 122
      · have ga0 : decide ((97 : Int) ≤ (X : Int)) = true := decide_eq_true (by omega)
        have la0 : decide ((X : Int) ≤ 122) = true := decide_eq_true (by omega)
        have hq : q = true := by rw [HN.out]; simp; omega
        subst hq
        have HG := hide (HGO.out rfl)
        clear HGO HST HN
        go_wp2
        go_roundw
        case rel => exact ⟨i + 1, by omega, by go_num, HG, trivial⟩
        case measure => simp [intOf]; omega
      by_cases y1 : 122 < X
      · have ga0 : decide ((97 : Int) ≤ (X : Int)) = true := decide_eq_true (by omega)
        have ga1 : decide ((65 : Int) ≤ (X : Int)) = true := decide_eq_true (by omega)
        have ga2 : decide ((48 : Int) ≤ (X : Int)) = true := decide_eq_true (by omega)
        have la0 : decide ((X : Int) ≤ 122) = false := decide_eq_false (by omega)
        have la1 : decide ((X : Int) ≤ 90) = false := decide_eq_false (by omega)
        have la2 : decide ((X : Int) ≤ 57) = false := decide_eq_false (by omega)
        have na0 : ((X : Int) != 46) = true := by simp; omega
        have nb0 : ((X : Int) == 46) = false := by simp; omega
        have na1 : ((X : Int) != 45) = true := by simp; omega
        have nb1 : ((X : Int) == 45) = false := by simp; omega
        have na2 : ((X : Int) != 95) = true := by simp; omega
        have nb2 : ((X : Int) == 95) = false := by simp; omega
        have hq : q = false := by rw [HN.out]; simp; omega
        subst hq
        obtain rfl := HST.out rfl
        clear HGO HST HN
        go_wp2
        go_ret
        exact ⟨rfl, rfl⟩
      by_cases y2 : 65 ≤ X ∧ X ≤ 90
      · have ga0 : decide ((97 : Int) ≤ (X : Int)) = false := decide_eq_false (by omega)
        have ga1 : decide ((65 : Int) ≤ (X : Int)) = true := decide_eq_true (by omega)
        have la0 : decide ((X : Int) ≤ 90) = true := decide_eq_true (by omega)
        have hq : q = true := by rw [HN.out]; simp; omega
        subst hq
        have HG := hide (HGO.out rfl)
        clear HGO HST HN
        go_wp2
        go_roundw
        case rel => exact ⟨i + 1, by omega, by go_num, HG, trivial⟩
        case measure => simp [intOf]; omega
      by_cases y3 : X = 95
      · have ga0 : decide ((97 : Int) ≤ (X : Int)) = false := decide_eq_false (by omega)
        have ga1 : decide ((65 : Int) ≤ (X : Int)) = true := decide_eq_true (by omega)
        have ga2 : decide ((48 : Int) ≤ (X : Int)) = true := decide_eq_true (by omega)
        have la0 : decide ((X : Int) ≤ 90) = false := decide_eq_false (by omega)
        have la1 : decide ((X : Int) ≤ 57) = false := decide_eq_false (by omega)
        have na0 : ((X : Int) != 46) = true := by simp; omega
        have nb0 : ((X : Int) == 46) = false := by simp; omega
        have na1 : ((X : Int) != 45) = true := by simp; omega
        have nb1 : ((X : Int) == 45) = false := by simp; omega
        have na2 : ((X : Int) != 95) = false := by simp; omega
        have nb2 : ((X : Int) == 95) = true := by simp; omega
        have hq : q = true := by rw [HN.out]; simp; omega
        subst hq
        have HG := hide (HGO.out rfl)
        clear HGO HST HN
        go_wp2
        go_roundw
        case rel => exact ⟨i + 1, by omega, by go_num, HG, trivial⟩
        case measure => simp [intOf]; omega
      by_cases y4 : 91 ≤ X
      · have ga0 : decide ((97 : Int) ≤ (X : Int)) = false := decide_eq_false (by omega)
        have ga1 : decide ((65 : Int) ≤ (X : Int)) = true := decide_eq_true (by omega)
        have ga2 : decide ((48 : Int) ≤ (X : Int)) = true := decide_eq_true (by omega)
        have la0 : decide ((X : Int) ≤ 90) = false := decide_eq_false (by omega)
        have la1 : decide ((X : Int) ≤ 57) = false := decide_eq_false (by omega)
        have na0 : ((X : Int) != 46) = true := by simp; omega
        have nb0 : ((X : Int) == 46) = false := by simp; omega
        have na1 : ((X : Int) != 45) = true := by simp; omega
        have nb1 : ((X : Int) == 45) = false := by simp; omega
        have na2 : ((X : Int) != 95) = true := by simp; omega
        have nb2 : ((X : Int) == 95) = false := by simp; omega
        have hq : q = false := by rw [HN.out]; simp; omega
        subst hq
        obtain rfl := HST.out rfl
        clear HGO HST HN
        go_wp2
        go_ret
        exact ⟨rfl, rfl⟩
      by_cases y5 : 48 ≤ X ∧ X ≤ 57
      · have ga0 : decide ((97 : Int) ≤ (X : Int)) = false := decide_eq_false (by omega)
        have ga1 : decide ((65 : Int) ≤ (X : Int)) = false := decide_eq_false (by omega)
        have ga2 : decide ((48 : Int) ≤ (X : Int)) = true := decide_eq_true (by omega)
        have la0 : decide ((X : Int) ≤ 57) = true := decide_eq_true (by omega)
        have hq : q = true := by rw [HN.out]; simp; omega
        subst hq
        have HG := hide (HGO.out rfl)
        clear HGO HST HN
        go_wp2
        go_roundw
        case rel => exact ⟨i + 1, by omega, by go_num, HG, trivial⟩
        case measure => simp [intOf]; omega
      by_cases y6 : 58 ≤ X
      · have ga0 : decide ((97 : Int) ≤ (X : Int)) = false := decide_eq_false (by omega)
        have ga1 : decide ((65 : Int) ≤ (X : Int)) = false := decide_eq_false (by omega)
        have ga2 : decide ((48 : Int) ≤ (X : Int)) = true := decide_eq_true (by omega)
        have la0 : decide ((X : Int) ≤ 57) = false := decide_eq_false (by omega)
        have na0 : ((X : Int) != 46) = true := by simp; omega
        have nb0 : ((X : Int) == 46) = false := by simp; omega
        have na1 : ((X : Int) != 45) = true := by simp; omega
        have nb1 : ((X : Int) == 45) = false := by simp; omega
        have na2 : ((X : Int) != 95) = true := by simp; omega
        have nb2 : ((X : Int) == 95) = false := by simp; omega
        have hq : q = false := by rw [HN.out]; simp; omega
        subst hq
        obtain rfl := HST.out rfl
        clear HGO HST HN
        go_wp2
        go_ret
        exact ⟨rfl, rfl⟩
      by_cases y7 : X = 46
      · have ga0 : decide ((97 : Int) ≤ (X : Int)) = false := decide_eq_false (by omega)
        have ga1 : decide ((65 : Int) ≤ (X : Int)) = false := decide_eq_false (by omega)
        have ga2 : decide ((48 : Int) ≤ (X : Int)) = false := decide_eq_false (by omega)
        have na0 : ((X : Int) != 46) = false := by simp; omega
        have nb0 : ((X : Int) == 46) = true := by simp; omega
        have hq : q = true := by rw [HN.out]; simp; omega
        subst hq
        have HG := hide (HGO.out rfl)
        clear HGO HST HN
        go_wp2
        go_roundw
        case rel => exact ⟨i + 1, by omega, by go_num, HG, trivial⟩
        case measure => simp [intOf]; omega
      by_cases y8 : X = 45
      · have ga0 : decide ((97 : Int) ≤ (X : Int)) = false := decide_eq_false (by omega)
        have ga1 : decide ((65 : Int) ≤ (X : Int)) = false := decide_eq_false (by omega)
        have ga2 : decide ((48 : Int) ≤ (X : Int)) = false := decide_eq_false (by omega)
        have na0 : ((X : Int) != 46) = true := by simp; omega
        have nb0 : ((X : Int) == 46) = false := by simp; omega
        have na1 : ((X : Int) != 45) = false := by simp; omega
        have nb1 : ((X : Int) == 45) = true := by simp; omega
        have hq : q = true := by rw [HN.out]; simp; omega
        subst hq
        have HG := hide (HGO.out rfl)
        clear HGO HST HN
        go_wp2
        go_roundw
        case rel => exact ⟨i + 1, by omega, by go_num, HG, trivial⟩
        case measure => simp [intOf]; omega
      · have ga0 : decide ((97 : Int) ≤ (X : Int)) = false := decide_eq_false (by omega)
        have ga1 : decide ((65 : Int) ≤ (X : Int)) = false := decide_eq_false (by omega)
        have ga2 : decide ((48 : Int) ≤ (X : Int)) = false := decide_eq_false (by omega)
        have na0 : ((X : Int) != 46) = true := by simp; omega
        have nb0 : ((X : Int) == 46) = false := by simp; omega
        have na1 : ((X : Int) != 45) = true := by simp; omega
        have nb1 : ((X : Int) == 45) = false := by simp; omega
        have na2 : ((X : Int) != 95) = true := by simp; omega
        have nb2 : ((X : Int) == 95) = false := by simp; omega
        have hq : q = false := by rw [HN.out]; simp; omega
        subst hq
        obtain rfl := HST.out rfl
        clear HGO HST HN
        go_wp2
        go_ret
        exact ⟨rfl, rfl⟩
    · obtain rfl : i = s.length := by omega
      rw [List.take_length] at ha
      have HE : Hid (B = (decide (s ≠ []) && decide (s.length ≤ 24))) := by
        show _ = _
        rw [← HB.out]
        unfold nmOk
        rw [ha.out, Bool.and_true]
      by_cases h1 : 1 ≤ s.length
      · have a1 : decide ((1 : Int) ≤ (s.length : Int)) = true := decide_eq_true (by omega)
        have hne : s ≠ [] := by intro e; subst e; simp at h1
        by_cases h2 : s.length ≤ 24
        · have a2 : decide ((s.length : Int) ≤ 24) = true := decide_eq_true (by omega)
          obtain rfl : B = true := by rw [HE.out]; simp [hne, h2]
          clear hne
          go_wp2
          go_ret
          exact ⟨rfl, rfl⟩
        · have a2 : decide ((s.length : Int) ≤ 24) = false := decide_eq_false (by omega)
          obtain rfl : B = false := by rw [HE.out]; simp [hne, h2]
          clear hne
          go_wp2
          go_ret
          exact ⟨rfl, rfl⟩
      · have a1 : decide ((1 : Int) ≤ (s.length : Int)) = false := decide_eq_false (by omega)
        have hse : s = [] := List.eq_nil_of_length_eq_zero (by omega)
        obtain rfl : B = false := by rw [HE.out, hse]; simp
        clear hse
        go_wp2
        go_ret
        exact ⟨rfl, rfl⟩
#print axioms rname_any
end Go.Proofs.YthhcaalafacjlaaDoor
end
section
set_option linter.unusedVariables false
set_option maxRecDepth 1000000
namespace Go.Proofs.YthhcaalafacjlaaDoor
open Go.RowKit

set_option maxHeartbeats 4000000 in
theorem rclaim_any (c g : List UInt8) (u : Int) (w : World) (hc : c.length ≤ 100000) (hg : g.length ≤ 100000) :
    Calls Tryd.prog 24 #[.agg #[.string (str c), .string (str g), .int .i64 u]] w fun e w' => ∃ E : Int, e = .returned (.int .i64 E) ∧ Hid (E = clOk ⟨c, g, u⟩) ∧ Hid (Below w.heap.size w w') := by
  go_enter Tryd.func24, Tryd.ntmps24
  go_wp2_with fail
  have HC1 := hide (ClC.new w c g u)
  have HB1 : Hid (Below w.heap.size w (w.alloc (.cells #[.string (str c), .string (str g), .int .i64 u] 24))) := (Below.refl _ _).alloc (Nat.le_refl _) _
  generalize w.alloc (.cells #[.string (str c), .string (str g), .int .i64 u] 24) = w1 at *
  obtain ⟨k0, k1, k2⟩ := HC1.out
  refine (rname_any c w1 hc).mono ?_
  rintro e w2 ⟨rfl, rfl⟩
  cases hnc : nmOk c with
  | false =>
    have HM : Hid ((6 : Int) = clOk ⟨c, g, u⟩) := by show _ = _; simp [clOk, hnc]
    clear hnc
    go_wp2
    go_ret
    exact ⟨6, rfl, HM, HB1⟩
  | true =>
  have HN := hide hnc
  clear hnc
  go_wp2_with fail
  refine (rname_any g _ hg).mono ?_
  rintro e w3 ⟨rfl, rfl⟩
  cases hng : nmOk g with
  | false =>
    have HM : Hid ((6 : Int) = clOk ⟨c, g, u⟩) := by show _ = _; simp [clOk, hng]
    clear hng
    go_wp2
    go_ret
    exact ⟨6, rfl, HM, HB1⟩
  | true =>
  have HN2 := hide hng
  clear hng
  by_cases h1 : u < 0
  · have d1 : decide (u < 0) = true := decide_eq_true h1
    have HM : Hid ((1 : Int) = clOk ⟨c, g, u⟩) := by show _ = _; simp [clOk, HN.out, HN2.out]; omega
    go_wp2
    go_ret
    exact ⟨1, rfl, HM, HB1⟩
  have d1 : decide (u < 0) = false := decide_eq_false h1
  by_cases h2 : 1099511627776 < u
  · have d2 : decide (1099511627776 < u) = true := decide_eq_true h2
    have HM : Hid ((1 : Int) = clOk ⟨c, g, u⟩) := by show _ = _; simp [clOk, HN.out, HN2.out]; omega
    go_wp2
    go_ret
    exact ⟨1, rfl, HM, HB1⟩
  have d2 : decide (1099511627776 < u) = false := decide_eq_false h2
  have HM : Hid ((0 : Int) = clOk ⟨c, g, u⟩) := by
    show _ = _
    simp only [clOk, HN.out, HN2.out, Bool.and_self, if_true]
    rw [if_pos (by constructor <;> omega)]
  go_wp2
  go_ret
  exact ⟨0, rfl, HM, HB1⟩

/-- What stays while the document's token is spelt. -/
def InvU (w : World) (Z : Nat) (x : Option Addr) (cx : Nat) (bt : List UInt8) (a : Option Addr) (c : Nat) (r : List UInt8) (W : World) : Prop := Below w.heap.size w W ∧ W.cell? ⟨Z, 1, none⟩ = some (.slice x bt.length cx) ∧ Bs W x cx bt ∧ Bs W a c r
theorem InvU.next {w W W' : World} {Z : Nat} {x : Option Addr} {cx : Nat} {bt : List UInt8} {a : Option Addr} {c : Nat} {r : List UInt8} (h : InvU w Z x cx bt a c r W) (hb : Below W.heap.size W W') : InvU w Z x cx bt a c r W' :=
  ⟨h.1.trans (hb.mono h.1.size), (hb.cell (World.block_lt_of_cell? W _ h.2.1)).trans h.2.1, h.2.2.1.below hb (Nat.le_refl _), h.2.2.2.below hb (Nat.le_refl _)⟩

set_option maxHeartbeats 8000000 in
theorem rtoken_any (id : Int) (x : Option Addr) (cx : Nat) (bt : List UInt8) (c g : List UInt8) (u : Int) (w : World) (hB : Bs w x cx bt) (hbt : bt.length ≤ 64) (hi0 : -9223372036854775808 ≤ id) (hi1 : id ≤ 9223372036854775807) (hu0 : -9223372036854775808 ≤ u) (hu1 : u ≤ 9223372036854775807) (hc : c.length ≤ 24) (hg : g.length ≤ 24) :
    Calls Tryd.prog 25 #[.agg #[.int .i64 id, .slice x bt.length cx], .agg #[.string (str c), .string (str g), .int .i64 u]] w fun e w' => ∃ T, e = .returned (.string (str T)) ∧ Hid (T = tok (id, bt) ⟨c, g, u⟩) ∧ Hid (Below w.heap.size w w') := by
  have hsc : (str c).size = c.length := str_size c
  have hsg : (str g).size = g.length := str_size g
  have HSC := hide hsc
  have HSG := hide hsg
  have HB := hide hB
  clear hsc hsg hB
  go_enter Tryd.func25, Tryd.ntmps25
  go_wp2_with fail
  have HZ1 : Hid (((w.alloc (.cells #[.int .i64 id, .slice x bt.length cx] 42)).alloc (.cells #[.string (str c), .string (str g), .int .i64 u] 24)).cell? ⟨w.heap.size, 1, none⟩ = some (.slice x bt.length cx)) := by show _ = _; simp
  have HC1 : Hid (ClC ((w.alloc (.cells #[.int .i64 id, .slice x bt.length cx] 42)).alloc (.cells #[.string (str c), .string (str g), .int .i64 u] 24)) (w.heap.size + 1) c g u) := by
    have := ClC.new (w.alloc (.cells #[.int .i64 id, .slice x bt.length cx] 42)) c g u
    rw [show (w.alloc (.cells #[.int .i64 id, .slice x bt.length cx] 42)).heap.size = w.heap.size + 1 by simp] at this
    exact this
  have HB1 : Hid (Below w.heap.size w ((w.alloc (.cells #[.int .i64 id, .slice x bt.length cx] 42)).alloc (.cells #[.string (str c), .string (str g), .int .i64 u] 24))) := ((Below.refl _ _).alloc (Nat.le_refl _) _).alloc (by simp) _
  generalize (w.alloc (.cells #[.int .i64 id, .slice x bt.length cx] 42)).alloc (.cells #[.string (str c), .string (str g), .int .i64 u] 24) = w1 at *
  generalize w.heap.size + 1 = Z2 at *
  refine (rnumber_any none 0 [] id w1 (bs_none _) (by simp) hi0 hi1).mono ?_
  rintro e w2 ⟨a2, c2, r2, rfl, hr2, ho2, hb2⟩
  have HR2 : Hid (r2 = form id.toNat) := by show _ = _; rw [hr2.out]; rfl
  have hl2 : r2.length ≤ 10 := by rw [HR2.out]; exact form_len _
  have HC2 := hide (HC1.out.below hb2 (Nat.le_refl _))
  have HB2 : Hid (Below w.heap.size w w2) := HB1.out.trans (hb2.mono HB1.out.size)
  have HZ2 : Hid (w2.cell? ⟨w.heap.size, 1, none⟩ = some (.slice x bt.length cx)) := (hb2.cell (World.block_lt_of_cell? w1 _ HZ1.out)).trans HZ1.out
  have HO2 := hide ho2.toBs
  clear hr2 ho2 hb2 HC1 HB1 HZ1
  obtain ⟨k0, k1, k2⟩ := HC2.out
  go_wp2_with fail
  refine (rtext_any a2 c2 r2 (str c) w2 HO2.out (by omega) (by rw [HSC.out]; omega)).mono ?_
  rintro e w3 ⟨a3, c3, r3, rfl, hr3, ho3, hb3⟩
  have HR3 : Hid (r3 = form id.toNat ++ (form c.length ++ c)) := by show _ = _; rw [hr3.out, HR2.out, HSC.out]; rfl
  have hl3 : r3.length ≤ 44 := by rw [HR3.out]; simp only [List.length_append]; have := form_len id.toNat; have := form_len c.length; omega
  have HC3 := hide (HC2.out.below hb3 (Nat.le_refl _))
  have HB3 : Hid (Below w.heap.size w w3) := HB2.out.trans (hb3.mono HB2.out.size)
  have HZ3 : Hid (w3.cell? ⟨w.heap.size, 1, none⟩ = some (.slice x bt.length cx)) := (hb3.cell (World.block_lt_of_cell? w2 _ HZ2.out)).trans HZ2.out
  have HO3 := hide ho3.toBs
  clear hr3 ho3 hb3 HC2 HB2 HO2 HR2 HZ2 k0 k1 k2
  obtain ⟨k0, k1, k2⟩ := HC3.out
  go_wp2_with fail
  refine (rtext_any a3 c3 r3 (str g) w3 HO3.out (by omega) (by rw [HSG.out]; omega)).mono ?_
  rintro e w4 ⟨a4, c4, r4, rfl, hr4, ho4, hb4⟩
  have HR4 : Hid (r4 = form id.toNat ++ (form c.length ++ c) ++ (form g.length ++ g)) := by show _ = _; rw [hr4.out, HR3.out, HSG.out]; rfl
  have hl4 : r4.length ≤ 88 := by rw [HR4.out]; simp only [List.length_append]; have := form_len id.toNat; have := form_len c.length; have := form_len g.length; omega
  have HC4 := hide (HC3.out.below hb4 (Nat.le_refl _))
  have HB4 : Hid (Below w.heap.size w w4) := HB3.out.trans (hb4.mono HB3.out.size)
  have HZ4 : Hid (w4.cell? ⟨w.heap.size, 1, none⟩ = some (.slice x bt.length cx)) := (hb4.cell (World.block_lt_of_cell? w3 _ HZ3.out)).trans HZ3.out
  have HO4 := hide ho4.toBs
  clear hr4 ho4 hb4 HC3 HB3 HO3 HR3 HZ3 k0 k1 k2
  obtain ⟨k0, k1, k2⟩ := HC4.out
  go_wp2_with fail
  refine (rnumber_any a4 c4 r4 u w4 HO4.out (by omega) hu0 hu1).mono ?_
  rintro e w5 ⟨a5, c5, r5, rfl, hr5, ho5, hb5⟩
  have HR5 : Hid (r5 = pay id ⟨c, g, u⟩) := by show _ = _; rw [hr5.out, HR4.out]; rfl
  have hl5 : r5.length ≤ 200 := by rw [hr5.out, List.length_append]; have := form_len u.toNat; omega
  have HB5 : Hid (Below w.heap.size w w5) := HB4.out.trans (hb5.mono HB4.out.size)
  have HI5 : Hid (InvU w w.heap.size x cx bt a5 c5 r5 w5) := ⟨HB5.out, (hb5.cell (World.block_lt_of_cell? w4 _ HZ4.out)).trans HZ4.out, HB.out.below HB5.out (Nat.le_refl _), ho5.toBs⟩
  clear hr5 ho5 hb5 HC4 HB4 HO4 HR4 HZ4 k0 k1 k2 HB5
  obtain ⟨d, hd⟩ : ∃ d, mac bt r5 = d := ⟨_, rfl⟩
  have HDL : Hid (d.length = 32) := by show _ = _; rw [← hd]; exact mac_length _ _
  obtain ⟨T1, hT1⟩ : ∃ T, spR r5 0 0 = T := ⟨_, rfl⟩
  obtain ⟨T2, hT2⟩ : ∃ T, spR d 0 0 = T := ⟨_, rfl⟩
  have hl1 : T1.length ≤ 300 := by rw [← hT1, sp_length]; omega
  have hl2' : T2.length ≤ 300 := by rw [← hT2, sp_length, HDL.out]; omega
  have HTK : Hid (T1 ++ [46] ++ T2 = tok (id, bt) ⟨c, g, u⟩) := by
    show _ = _
    rw [← hT1, ← hT2, ← hd]
    unfold tok
    simp only
    rw [← HR5.out]
    simp
  have HMC : Hid (∀ W, Hid (InvU w w.heap.size x cx bt a5 c5 r5 W) → Calls Tryd.prog 44 #[.slice x bt.length cx, .slice a5 r5.length c5] W fun e W' => ∃ a' c' r, e = .returned (.slice a' r.length c') ∧ Hid (r = d) ∧ Hid (Bs W' a' c' r) ∧ Hid (InvU w w.heap.size x cx bt a5 c5 r5 W') ∧ Hid (Below W.heap.size W W')) := by
    intro W h
    refine (rmac_any x cx bt a5 c5 r5 W h.out.2.2.1 h.out.2.2.2 (by omega) (by omega)).mono ?_
    rintro e W' ⟨a', c', r, rfl, hr, hs, hb⟩
    exact ⟨a', c', r, rfl, (by show _ = _; rw [hr.out]; exact hd), hs, h.out.next hb.out, hb⟩
  have HSP : Hid (∀ W v (T : List UInt8), ((v = .slice a5 r5.length c5 ∧ T = T1) ∨ (∃ a' c' r, v = .slice a' r.length c' ∧ Hid (r = d) ∧ Hid (Bs W a' c' r) ∧ T = T2)) → Hid (InvU w w.heap.size x cx bt a5 c5 r5 W) → Calls Tryd.prog 43 #[v] W fun e W' => e = .returned (.string (str T)) ∧ Hid (InvU w w.heap.size x cx bt a5 c5 r5 W') ∧ Hid (Below W.heap.size W W')) := by
    intro W v T hv h
    rcases hv with ⟨rfl, rfl⟩ | ⟨a', c', r, rfl, hr, hs, rfl⟩
    · have h2 := rspell_any a5 c5 r5 W h.out.2.2.2 (by omega)
      rw [hT1] at h2
      refine h2.mono ?_
      rintro e W' ⟨rfl, hb⟩
      exact ⟨rfl, h.out.next hb, hb⟩
    · have h2 := rspell_any a' c' r W hs.out (by rw [hr.out, HDL.out]; omega)
      rw [hr.out, hT2] at h2
      refine (hr.out ▸ h2 : Calls Tryd.prog 43 #[.slice a' r.length c'] W _).mono ?_
      rintro e W' ⟨rfl, hb⟩
      exact ⟨rfl, h.out.next hb, hb⟩
  have add1 : ∀ wx, (Op.stringOp .add (str T1) { data := #[46] }).run Tryd.prog wx = .ok (.string (str (T1 ++ [46]))) wx := fun wx => run_add_str wx T1 [46] (by omega) (by simp)
  have add2 := fun wx => run_add_str wx (T1 ++ [46]) T2 (by simp; omega) (by omega)
  generalize T1 ++ [46] ++ T2 = T4 at *
  generalize T1 ++ [46] = T3 at *
  clear hd hT1 hT2 HR5
  have HI6 : Hid (InvU w w.heap.size x cx bt a5 c5 r5 w5.drew) := HI5.out.next (Below.refl _ _).drew
  have z1 := HI5.out.2.1
  clear HI5
  go_wp2
  go_region_with (first
    | (go_at_call 44; refine (HMC.out _ (by assumption)).mono ?_; rintro e w6 ⟨a6, c6, r6, rfl, hr6, hs6, hI6, hb6⟩; have z16 := hI6.out.2.1)
    | (go_at_call 43; refine (HSP.out _ _ _ (by first | exact .inl ⟨rfl, rfl⟩ | exact .inr ⟨a6, c6, r6, rfl, hr6, hs6, rfl⟩ | exact .inr ⟨a6, c6, r6, rfl, hr6, hs6.out.below hb7.out (Nat.le_refl _), rfl⟩) (by assumption)).mono ?_; rintro e w7 ⟨rfl, hI7, hb7⟩; have z17 := hI7.out.2.1))
  all_goals
    go_wp2
    go_ret
    exact ⟨T4, rfl, HTK, hI7.out.1⟩
#print axioms rtoken_any
end Go.Proofs.YthhcaalafacjlaaDoor
end
section
set_option linter.unusedVariables false
set_option maxRecDepth 1000000
namespace Go.Proofs.YthhcaalafacjlaaDoor
open Go.RowKit

theorem leastAt_zero (L : List Sec) : leastAt L 0 = 0 := by simp [leastAt]

set_option maxHeartbeats 8000000 in
theorem rcheck_core (E : Int) (p : Option Addr) (c : Nat) (L : List Sec) (w : World) (HEQ : Hid (E = if ckOk L then 0 else 102)) (h : SecR w p L) (hl : L.length ≤ 140737488355328) :
    Calls Tryd.prog 11 #[.slice p L.length c] w fun e w' => e = .returned (.int .i64 E) ∧ Hid (Below w.heap.size w w') := by
  by_cases h0 : L = []
  · subst h0
    obtain rfl : E = 102 := HEQ.out
    go_enter Tryd.func11, Tryd.ntmps11
    go_wp2
    go_ret
    exact ⟨rfl, Below.refl _ _⟩
  have hl0 : ¬ L.length = 0 := fun h => h0 (List.eq_nil_of_length_eq_zero h)
  have hd0 : decide ((L.length : Int) < 1) = false := decide_eq_false (by omega)
  by_cases h1 : 8 < L.length
  · obtain rfl : E = 102 := by rw [HEQ.out]; unfold ckOk; rw [decide_eq_false (show ¬ L.length ≤ 8 by omega)]; simp
    clear h0 HEQ
    have hd1 : decide ((8 : Int) < (L.length : Int)) = true := decide_eq_true (by omega)
    go_enter Tryd.func11, Tryd.ntmps11
    go_wp2
    go_ret
    exact ⟨rfl, Below.refl _ _⟩
  have HE : Hid (E = if ckFrom 0 L then 0 else 102) := by
    show _ = _
    rw [HEQ.out]
    unfold ckOk
    rw [decide_eq_true h0, decide_eq_true (show L.length ≤ 8 by omega)]
    simp
  have HS := hide h
  have hd1 : decide ((8 : Int) < (L.length : Int)) = false := decide_eq_false (by omega)
  clear h h0 HEQ
  go_enter Tryd.func11, Tryd.ntmps11
  go_wp2
  go_loopw [15] (fun v wr => ∃ (i : Nat) (m : Int), i ≤ L.length ∧ v = .int .i64 (i : Int) ∧ Hid (m = leastAt L i) ∧ 0 ≤ m ∧ (0 < i → 1 ≤ m) ∧ Hid (ckFrom 0 (L.take i) = true) ∧ Hid (Below w.heap.size w wr)) (fun v _ => L.length - (intOf v).toNat)
  case atStart => exact ⟨0, 0, Nat.zero_le _, rfl, rfl, by omega, by omega, rfl, Below.refl _ _⟩
  case round =>
    obtain ⟨i, m, hi, rfl, hm, hm0, hm1, hck, hb⟩ := hrel
    by_cases hlt : i < L.length
    · obtain ⟨s, hs⟩ : ∃ s, L[i]? = some s := ⟨_, List.getElem?_eq_getElem hlt⟩
      obtain ⟨b, off, x, cx, rfl, c0, c1, hB, hbl⟩ := (HS.out.below hb.out (Nat.le_refl _)).at hs
      have hbm := Nat.le_trans hB.le hB.most
      unfold maxLen at hbm
      have HK := hide (ck_succ L i s hs)
      have HL := hide (leastAt_succ L i s hs)
      rw [hck.out, ← hm.out] at HK
      obtain ⟨id, bt⟩ := s
      simp only at c0 c1 hbm HL
      have HBD : Hid (ckS m (id, bt) = false → E = 102) := fun h => by rw [HE.out, ck_bad L (i + 1) (by rw [HK.out, h]; rfl)]; rfl
      have HGD : Hid (ckS m (id, bt) = true → ckFrom 0 (L.take (i + 1)) = true) := fun h => by rw [HK.out, h]; rfl
      have hi2 : (i : Int) < (L.length : Int) := by omega
      have HBA : Hid (∀ o n, Hid (Below w.heap.size w ((wr.alloc o).drewN n))) := fun o n => below_drewN (hb.out.alloc hb.out.size o) n
      rcases Nat.eq_zero_or_pos i with hi0 | hip
      · subst hi0
        obtain rfl : m = 0 := by rw [hm.out]; exact leastAt_zero L
        have j0 : decide ((0 : Int) < ((0 : Nat) : Int)) = false := by simp
        rw [Nat.zero_mul, Nat.add_zero] at c0 c1
        clear hs HK hB hm hck hm1
        by_cases q1 : id < 0
        · obtain rfl := HBD.out (by simp [ckS]; omega)
          have g1 : decide (id < 0) = true := decide_eq_true (by omega)
          go_wp2
          go_quiet (fail)
          go_wp2
          go_ret
          exact ⟨rfl, HBA.out _ _⟩
        have g1 : decide (id < 0) = false := decide_eq_false (by omega)
        by_cases q2 : 1099511627776 < id
        · obtain rfl := HBD.out (by simp [ckS]; omega)
          have g2 : decide (1099511627776 < id) = true := decide_eq_true (by omega)
          go_wp2
          go_quiet (fail)
          go_wp2
          go_ret
          exact ⟨rfl, HBA.out _ _⟩
        have g2 : decide (1099511627776 < id) = false := decide_eq_false (by omega)
        by_cases q3 : bt.length < 16
        · obtain rfl := HBD.out (by simp [ckS]; omega)
          have g3 : decide ((bt.length : Int) < 16) = true := decide_eq_true (by omega)
          go_wp2
          go_quiet (fail)
          go_wp2
          go_ret
          exact ⟨rfl, HBA.out _ _⟩
        have g3 : decide ((bt.length : Int) < 16) = false := decide_eq_false (by omega)
        by_cases q4 : 64 < bt.length
        · obtain rfl := HBD.out (by simp [ckS]; omega)
          have g4 : decide ((64 : Int) < (bt.length : Int)) = true := decide_eq_true (by omega)
          go_wp2
          go_quiet (fail)
          go_wp2
          go_ret
          exact ⟨rfl, HBA.out _ _⟩
        have g4 : decide ((64 : Int) < (bt.length : Int)) = false := decide_eq_false (by omega)
        have HG := hide (HGD.out (by simp [ckS]; omega))
        clear HBD HGD
        go_wp2
        go_quiet (fail)
        go_wp2
        go_roundw
        case rel => exact ⟨0 + 1, id + 1, by omega, by go_num, (by show _ = _; rw [HL.out]), by omega, by omega, HG, HBA.out _ _⟩
        case measure => simp [intOf]; omega
      · obtain ⟨j, rfl⟩ : ∃ j, i = j + 1 := ⟨i - 1, by omega⟩
        obtain ⟨t, ht⟩ : ∃ t, L[j]? = some t := ⟨_, List.getElem?_eq_getElem (by omega)⟩
        obtain ⟨b', off', x', cx', he, p0, _, _, _⟩ := (HS.out.below hb.out (Nat.le_refl _)).at ht
        obtain ⟨rfl, rfl⟩ : b = b' ∧ off = off' := by simpa using he
        obtain ⟨pid, pbt⟩ := t
        simp only at p0
        obtain rfl : m = pid + 1 := by rw [hm.out]; exact leastAt_succ L j _ ht
        have j0 : decide ((0 : Int) < ((j + 1 : Nat) : Int)) = true := decide_eq_true (by omega)
        have j1 : ((j + 1 : Nat) : Int) - 1 = (j : Int) := by omega
        have j2 : (j : Int) + 1 - 1 = (j : Int) := by omega
        have j3 : (j : Int) < (L.length : Int) := by omega
        have j4 : decide ((0 : Int) < (j : Int) + 1) = true := decide_eq_true (by omega)
        have hm1' := hm1 (by omega)
        clear hs HK hB hm hck hm1 ht he
        by_cases q1 : id < 0
        · obtain rfl := HBD.out (by simp [ckS]; omega)
          have g1 : decide (id < 0) = true := decide_eq_true (by omega)
          go_wp2
          go_quiet (fail)
          go_wp2
          go_ret
          exact ⟨rfl, HBA.out _ _⟩
        have g1 : decide (id < 0) = false := decide_eq_false (by omega)
        by_cases q2 : 1099511627776 < id
        · obtain rfl := HBD.out (by simp [ckS]; omega)
          have g2 : decide (1099511627776 < id) = true := decide_eq_true (by omega)
          go_wp2
          go_quiet (fail)
          go_wp2
          go_ret
          exact ⟨rfl, HBA.out _ _⟩
        have g2 : decide (1099511627776 < id) = false := decide_eq_false (by omega)
        by_cases q5 : id ≤ pid
        · obtain rfl := HBD.out (by simp [ckS]; omega)
          have g5 : decide (id ≤ pid) = true := decide_eq_true (by omega)
          go_wp2
          go_quiet (fail)
          go_wp2
          go_ret
          exact ⟨rfl, HBA.out _ _⟩
        have g5 : decide (id ≤ pid) = false := decide_eq_false (by omega)
        by_cases q3 : bt.length < 16
        · obtain rfl := HBD.out (by simp [ckS]; omega)
          have g3 : decide ((bt.length : Int) < 16) = true := decide_eq_true (by omega)
          go_wp2
          go_quiet (fail)
          go_wp2
          go_ret
          exact ⟨rfl, HBA.out _ _⟩
        have g3 : decide ((bt.length : Int) < 16) = false := decide_eq_false (by omega)
        by_cases q4 : 64 < bt.length
        · obtain rfl := HBD.out (by simp [ckS]; omega)
          have g4 : decide ((64 : Int) < (bt.length : Int)) = true := decide_eq_true (by omega)
          go_wp2
          go_quiet (fail)
          go_wp2
          go_ret
          exact ⟨rfl, HBA.out _ _⟩
        have g4 : decide ((64 : Int) < (bt.length : Int)) = false := decide_eq_false (by omega)
        have HG := hide (HGD.out (by simp [ckS]; omega))
        clear HBD HGD
        go_wp2
        go_quiet (fail)
        go_wp2
        go_roundw
        case rel => exact ⟨j + 1 + 1, id + 1, by omega, by go_num, (by show _ = _; rw [HL.out]), by omega, by omega, HG, HBA.out _ _⟩
        case measure => simp [intOf]; omega
    · obtain rfl : i = L.length := by omega
      rw [List.take_length] at hck
      obtain rfl : E = 0 := by rw [HE.out, hck.out]; rfl
      go_wp2
      go_ret
      exact ⟨rfl, hb⟩
theorem rcheck_any (p : Option Addr) (c : Nat) (L : List Sec) (w : World) (h : SecR w p L) (hl : L.length ≤ 140737488355328) :
    Calls Tryd.prog 11 #[.slice p L.length c] w fun e w' => e = .returned (.int .i64 (if ckOk L then 0 else 102)) ∧ Hid (Below w.heap.size w w') := rcheck_core _ p c L w rfl h hl
#print axioms rcheck_any
end Go.Proofs.YthhcaalafacjlaaDoor
end
section
set_option linter.unusedVariables false
set_option maxRecDepth 1000000
namespace Go.Proofs.YthhcaalafacjlaaDoor
open Go.RowKit

theorem cl_names' {x : Cl} (h : clOk x = 0) : x.c.length ≤ 24 ∧ x.g.length ≤ 24 := by
  unfold clOk at h
  split at h
  · rename_i hn
    rw [Bool.and_eq_true] at hn
    exact ⟨(nm_len hn.1).1, (nm_len hn.2).1⟩
  · omega
theorem ok_ne' {L : List Sec} (h : ckOk L = true) : L ≠ [] := by
  simp only [ckOk, Bool.and_eq_true, decide_eq_true_eq] at h
  exact h.1.1
set_option maxHeartbeats 8000000 in
theorem rmake_any (p : Option Addr) (cp : Nat) (L : List Sec) (c g : List UInt8) (u : Int) (w : World) (h : SecR w p L) (hl : L.length ≤ 140737488355328) (hc : c.length ≤ 100000) (hg : g.length ≤ 100000) (hu0 : -9223372036854775808 ≤ u) (hu1 : u ≤ 9223372036854775807) :
    Calls Tryd.prog 9 #[.slice p L.length cp, .agg #[.string (str c), .string (str g), .int .i64 u]] w fun e w' => ∃ (E : Int) (t : List UInt8), e = .returned (.tuple #[.string (str t), .int .i64 E]) ∧ Hid ((E, t) = mkT L ⟨c, g, u⟩) ∧ Hid (Below w.heap.size w w') := by
  have HS := hide h
  clear h
  go_enter Tryd.func9, Tryd.ntmps9
  go_wp2_with fail
  have HI1 : Hid (InvS w w.heap.size c g u (w.alloc (.cells #[.string (str c), .string (str g), .int .i64 u] 24))) := ⟨(Below.refl _ _).alloc (Nat.le_refl _) _, ClC.new w c g u⟩
  generalize w.alloc (.cells #[.string (str c), .string (str g), .int .i64 u] 24) = w1 at *
  refine (rcheck_any p cp L w1 (HS.out.below HI1.out.1 (Nat.le_refl _)) hl).mono ?_
  rintro e w2 ⟨rfl, hb2⟩
  have HI2 := hide (HI1.out.next hb2.out)
  clear hb2 HI1
  cases hck : ckOk L with
  | false =>
    have HM : Hid (((102 : Int), ([] : List UInt8)) = mkT L ⟨c, g, u⟩) := by show _ = _; unfold mkT; rw [if_pos hck]
    go_wp2
    go_ret2
    exact ⟨102, [], rfl, HM, HI2.out.1⟩
  | true =>
  have HCK := hide hck
  clear hck
  obtain ⟨k0, k1, k2⟩ := HI2.out.2
  go_wp2_with fail
  refine (rclaim_any c g u w2 hc hg).mono ?_
  rintro e w3 ⟨E, rfl, hE, hb3⟩
  have HI3 := hide (HI2.out.next hb3.out)
  clear hb3 HI2 k0 k1 k2
  by_cases hE0 : E = 0
  · subst hE0
    have hcl := hE.out.symm
    have hn := cl_names' hcl
    have hlg := last_get L (ok_ne' HCK.out)
    obtain ⟨N, hN⟩ : ∃ N, L.length = N + 1 := ⟨L.length - 1, by have := List.length_pos_iff.2 (ok_ne' HCK.out); omega⟩
    rw [show L.length - 1 = N by omega] at hlg
    have HM : Hid (((0 : Int), tok (lastS L) ⟨c, g, u⟩) = mkT L ⟨c, g, u⟩) := by
      show _ = _
      unfold mkT
      rw [if_neg (by rw [HCK.out]; simp), if_neg (by rw [hcl]; simp)]
    have hmem := ckOk_mem HCK.out _ (List.mem_of_getElem? hlg)
    obtain ⟨b, off, x, cx, rfl, c0, c1, hB, hbl⟩ := (HS.out.below HI3.out.1 (Nat.le_refl _)).at hlg
    clear hlg hcl hE
    generalize lastS L = s at *
    obtain ⟨id, bt⟩ := s
    simp only at c0 c1 hB hmem
    have HBT := hide hB
    clear hB
    have hN1 : (L.length : Int) - 1 = (N : Int) := by omega
    have hN2 : (N : Int) < (L.length : Int) := by omega
    have hN3 : IntKind.i64.wrap (N : Int) = (N : Int) := by rw [IntKind.wrap_i64]; omega
    have HTK : Hid (∀ W, Hid (InvS w3 w.heap.size c g u W) → Calls Tryd.prog 25 #[.agg #[.int .i64 id, .slice x bt.length cx], .agg #[.string (str c), .string (str g), .int .i64 u]] W fun e W' => ∃ T, e = .returned (.string (str T)) ∧ Hid (T = tok (id, bt) ⟨c, g, u⟩) ∧ Hid (InvS w3 w.heap.size c g u W')) := by
      intro W h
      refine (rtoken_any id x cx bt c g u W (HBT.out.below h.out.1 (Nat.le_refl _)) hmem.2.2 (by omega) (by omega) hu0 hu1 hn.1 hn.2).mono ?_
      rintro e W' ⟨T, rfl, h1, h2⟩
      exact ⟨T, rfl, h1, h.out.next h2.out⟩
    have HI4 : Hid (InvS w3 w.heap.size c g u w3.drew) := ⟨(Below.refl _ _).drew, HI3.out.2.below (Below.refl w3.heap.size w3).drew (Nat.le_refl _)⟩
    have HB3 : Hid (Below w.heap.size w w3) := HI3.out.1
    obtain ⟨k0, k1, k2⟩ := HI3.out.2
    clear HI3 hmem hN hn
    go_wp2
    go_region_with (go_at_call 25; refine (HTK.out _ (by assumption)).mono ?_; rintro e w5 ⟨T, rfl, hT5, hI5⟩)
    all_goals
      go_wp2
      go_ret2
      exact ⟨0, T, rfl, (by show _ = _; rw [hT5.out]; exact HM.out), HB3.out.trans (hI5.out.1.mono HB3.out.size)⟩
  · have hEn : (E != 0) = true := by simp [hE0]
    have hEq : (E == 0) = false := by simp [hE0]
    have HM : Hid ((E, ([] : List UInt8)) = mkT L ⟨c, g, u⟩) := by
      show _ = _
      unfold mkT
      rw [if_neg (by rw [HCK.out]; simp), ← hE.out, if_pos hE0]
    go_wp2
    go_ret2
    exact ⟨E, [], rfl, HM, HI3.out.1⟩

set_option maxHeartbeats 4000000 in
theorem same1_any (id : Int) (a : Option Addr) (ca : Nat) (b : Option Addr) (cb : Nat) (l : List UInt8) (w : World) (h1 : Bs w a ca l) (h2 : Bs w b cb l) :
    Calls Tryd.prog 28 #[.agg #[.int .i64 id, .slice a l.length ca], .agg #[.int .i64 id, .slice b l.length cb]] w fun e w' => e = .returned (.bool true) ∧ Hid (Below w.heap.size w w') := by
  have H1 := hide (((h1.alloc (.cells #[.int .i64 id, .slice a l.length ca] 42))).alloc (.cells #[.int .i64 id, .slice b l.length cb] 42))
  have H2 := hide (((h2.alloc (.cells #[.int .i64 id, .slice a l.length ca] 42))).alloc (.cells #[.int .i64 id, .slice b l.length cb] 42))
  have HB : Hid (Below w.heap.size w ((w.alloc (.cells #[.int .i64 id, .slice a l.length ca] 42)).alloc (.cells #[.int .i64 id, .slice b l.length cb] 42))) := ((Below.refl _ _).alloc (Nat.le_refl _) _).alloc (by simp) _
  clear h1 h2
  go_enter Tryd.func28, Tryd.ntmps28
  go_wp2_with fail
  refine (equal_any a l.length ca l b l.length cb l _ H1.out.row H2.out.row rfl rfl).mono ?_
  rintro e w3 ⟨rfl, rfl⟩
  rw [show (l == l) = true by simp]
  go_wp2
  go_ret
  exact ⟨rfl, HB⟩

set_option maxHeartbeats 8000000 in
theorem eqf_secs (p : Option Addr) (cp : Nat) (p2 : Option Addr) (cp2 : Nat) (L : List Sec) (w : World) (h : SecR w p L) (h2 : SecR w p2 L) (hl : L.length ≤ 140737488355328) :
    Calls Tryd.prog 27 #[.slice p L.length cp, .slice p2 L.length cp2, .func (.func 28) #[] #[]] w fun e w' => e = .returned (.bool true) ∧ Hid (Below w.heap.size w w') := by
  have HS := hide h
  have HS2 := hide h2
  have hq : ((L.length : Int) != (L.length : Int)) = false := by simp
  clear h h2
  go_enter Tryd.func27, Tryd.ntmps27
  go_wp2
  go_loopw [17] (fun v wr => ∃ i : Nat, i ≤ L.length ∧ v = .int .i64 (i : Int) ∧ Hid (Below w.heap.size w wr)) (fun v _ => L.length - (intOf v).toNat)
  case atStart => exact ⟨0, Nat.zero_le _, rfl, Below.refl _ _⟩
  case round =>
    obtain ⟨i, hi, rfl, hb⟩ := hrel
    by_cases hlt : i < L.length
    · obtain ⟨s, hs⟩ : ∃ s, L[i]? = some s := ⟨_, List.getElem?_eq_getElem hlt⟩
      obtain ⟨b, off, x, cx, rfl, c0, c1, hB, hbl⟩ := (HS.out.below hb.out (Nat.le_refl _)).at hs
      obtain ⟨b2, off2, x2, cx2, rfl, d0, d1, hB2, hbl2⟩ := (HS2.out.below hb.out (Nat.le_refl _)).at hs
      obtain ⟨id, bt⟩ := s
      simp only at c0 c1 d0 d1 hB hB2
      have HBa := hide hB
      have HBb := hide hB2
      have hi2 : (i : Int) < (L.length : Int) := by omega
      clear hs hB hB2
      go_wp2_with fail
      refine (same1_any id x cx x2 cx2 bt _ ((HBa.out.alloc _).alloc _) ((HBb.out.alloc _).alloc _)).mono ?_
      rintro e w3 ⟨rfl, hb3⟩
      have HB3 : Hid (Below w.heap.size w w3) := ((hb.out.alloc hb.out.size _).alloc (by have := hb.out.size; simp; omega) _).trans (hb3.out.mono (by have := hb.out.size; simp; omega))
      clear hb3 c0 c1 d0 d1
      go_wp2
      go_roundw
      case rel => exact ⟨i + 1, by omega, by go_num, HB3⟩
      case measure => simp [intOf]; omega
    · obtain rfl : i = L.length := by omega
      go_wp2
      go_ret
      exact ⟨rfl, hb⟩
set_option maxHeartbeats 2000000 in
theorem sames_any (p : Option Addr) (cp : Nat) (p2 : Option Addr) (cp2 : Nat) (L : List Sec) (w : World) (h : SecR w p L) (h2 : SecR w p2 L) (hl : L.length ≤ 140737488355328) :
    Calls Tryd.prog 14 #[.slice p L.length cp, .slice p2 L.length cp2] w fun e w' => e = .returned (.bool true) ∧ Hid (Below w.heap.size w w') := by
  have HC := hide (eqf_secs p cp p2 cp2 L w h h2 hl)
  clear h h2
  go_enter Tryd.func14, Tryd.ntmps14
  go_wp2_with (go_at_call 27; refine HC.out.mono ?_; rintro e w2 ⟨rfl, hb2⟩)
  go_ret
  exact ⟨rfl, hb2⟩
#print axioms sames_any
end Go.Proofs.YthhcaalafacjlaaDoor
end
section
set_option linter.unusedVariables false
set_option maxRecDepth 1000000
namespace Go.Proofs.YthhcaalafacjlaaDoor
open Go.RowKit

theorem cut_cons (b : UInt8) (l : List UInt8) (h : b ≠ 46) : cutP (b :: l) = b :: cutP l := by
  unfold cutP
  rw [List.takeWhile_cons]
  simp [h]
theorem cut_nil (l : List UInt8) : cutP (46 :: l) = [] := by
  unfold cutP
  simp
theorem cut_before : ∀ (s : List UInt8) (i : Nat), i < (cutP s).length → s.getD i 0 ≠ 46
  | [], i, h => by simp [cutP] at h
  | b :: l, i, h => by
    by_cases hb : b = 46
    · subst hb; rw [cut_nil] at h; simp at h
    · rw [cut_cons b l hb] at h
      cases i with
      | zero => simpa using hb
      | succ j => simpa using cut_before l j (by simpa using h)
theorem cut_at : ∀ (s : List UInt8), (cutP s).length < s.length → s.getD (cutP s).length 0 = 46
  | [], h => by simp [cutP] at h
  | b :: l, h => by
    by_cases hb : b = 46
    · subst hb; rw [cut_nil]; simp
    · rw [cut_cons b l hb] at h ⊢
      simpa using cut_at l (by simpa using h)
theorem cut_le (s : List UInt8) : (cutP s).length ≤ s.length := by unfold cutP; exact (List.takeWhile_sublist _).length_le
theorem cut_take (s : List UInt8) : s.take (cutP s).length = cutP s := by
  rcases idx_cut s with ⟨_, _, _, h⟩ | ⟨_, h, _⟩
  · exact h.symm
  · rw [h]; simp
theorem sg_found {L : List Sec} {id : Int} {x : Cl} {s : List UInt8} (hL : ckOk L = true) (hx : clOk x = 0) {j : Nat} {k : Sec} (hk : L[j]? = some k) (hid : k.1 = id) (ht : tok k x = s) : sgn L id x s = true := by
  have hc : ckFrom 0 L = true := by simp only [ckOk, Bool.and_eq_true] at hL; exact hL.2
  unfold sgn
  rw [← hid, ck_find L 0 j k hc hk]
  unfold mkT
  simp [ckOk_take hL j, hx, last_take L j k hk, ht]
theorem sg_true {L : List Sec} {id : Int} {x : Cl} {s : List UInt8} (h : sgn L id x s = true) : ∃ (j : Nat) (k : Sec), L[j]? = some k ∧ k.1 = id ∧ clOk x = 0 ∧ tok k x = s := by
  unfold sgn at h
  split at h
  · cases h
  · rename_i i hi
    rw [Bool.and_eq_true, decide_eq_true_eq, decide_eq_true_eq] at h
    have hm : mkT (L.take (i + 1)) x = (0, s) := Prod.ext h.1 h.2
    obtain ⟨hil, hidx⟩ := List.findIdx?_eq_some_iff_findIdx_eq.1 hi
    obtain ⟨k, hk⟩ : ∃ k, L[i]? = some k := ⟨_, List.getElem?_eq_getElem hil⟩
    have hid : k.1 = id := by
      have := List.findIdx?_eq_some_iff_getElem.1 hi
      obtain ⟨h1, h2, _⟩ := this
      have e : L[i] = k := Option.some.inj ((List.getElem?_eq_getElem h1).symm.trans hk)
      rw [e] at h2
      simpa using h2
    refine ⟨i, k, hk, hid, (mk_ok hm).2.1, ?_⟩
    rw [(mk_ok hm).2.2, last_take L i k hk]
theorem pay_reads (id : Int) (x : Cl) (h0 : 0 ≤ id) (h1 : id ≤ 1099511627776) (hx : clOk x = 0) (N1 S1 E1 E2 S2 E3 S3 N4 S4 E4 : Nat) (t2 t3 : List UInt8) (e1 : (N1, S1, E1) = rd ((pay id x).drop 0)) (e2 : (t2, E2, S2) = tx ((pay id x).drop (0 + S1)) 24) (e3 : (t3, E3, S3) = tx ((pay id x).drop (0 + S1 + S2)) 24) (e4 : (N4, S4, E4) = rd ((pay id x).drop (0 + S1 + S2 + S3))) : E1 = 0 ∧ E2 = 0 ∧ E3 = 0 ∧ E4 = 0 := by
  have hn := cl_names hx
  rw [List.drop_zero] at e1
  rw [Nat.zero_add] at e2 e3 e4
  rw [← List.drop_drop] at e3
  rw [← List.drop_drop, ← List.drop_drop] at e4
  have e0 : pay id x = form id.toNat ++ (form x.c.length ++ (x.c ++ (form x.g.length ++ (x.g ++ form x.u.toNat)))) := by simp [pay]
  have r1 : rd (pay id x) = (id.toNat, (form id.toNat).length, 0) := by rw [e0]; exact rd_form _ (by omega) _
  rw [r1] at e1
  obtain ⟨rfl, rfl, rfl⟩ : N1 = id.toNat ∧ S1 = (form id.toNat).length ∧ E1 = 0 := by simpa using e1
  have d1 : (pay id x).drop (form id.toNat).length = form x.c.length ++ (x.c ++ (form x.g.length ++ (x.g ++ form x.u.toNat))) := by rw [e0]; simp
  rw [d1] at e2 e3 e4
  rw [tx_name x.c (form x.g.length ++ (x.g ++ form x.u.toNat)) hn.1] at e2
  obtain ⟨rfl, rfl, rfl⟩ : t2 = x.c ∧ E2 = 0 ∧ S2 = (form x.c.length).length + x.c.length := by simpa using e2
  have d2 : (form x.c.length ++ (x.c ++ (form x.g.length ++ (x.g ++ form x.u.toNat)))).drop ((form x.c.length).length + x.c.length) = form x.g.length ++ (x.g ++ form x.u.toNat) := by
    rw [← List.append_assoc, ← List.length_append, List.drop_left]
  rw [d2] at e3 e4
  rw [tx_name x.g (form x.u.toNat) hn.2.1] at e3
  obtain ⟨rfl, rfl, rfl⟩ : t3 = x.g ∧ E3 = 0 ∧ S3 = (form x.g.length).length + x.g.length := by simpa using e3
  have d3 : (form x.g.length ++ (x.g ++ form x.u.toNat)).drop ((form x.g.length).length + x.g.length) = form x.u.toNat := by
    rw [← List.append_assoc, ← List.length_append, List.drop_left]
  rw [d3] at e4
  have r4 : rd (form x.u.toNat) = (x.u.toNat, (form x.u.toNat).length, 0) := by
    have := rd_form x.u.toNat (by omega) []
    simpa using this
  rw [r4] at e4
  exact ⟨rfl, rfl, rfl, (by simpa using e4 : _ ∧ _ ∧ E4 = 0).2.2⟩
/-- What is signed can be read. -/
theorem sg_reads {L : List Sec} {s : List UInt8} (hL : ckOk L = true) (h : sgn L (say s).1 (say s).2 s = true) : ∃ (id : Int) (x : Cl), unR (cutP s) 0 0 = some (pay id x) ∧ 0 ≤ id ∧ id ≤ 1099511627776 ∧ clOk x = 0 ∧ (say s).2 = x := by
  obtain ⟨j, k, hk, hid, hx, ht⟩ := sg_true h
  have hm := ckOk_mem hL k (List.mem_of_getElem? hk)
  refine ⟨k.1, (say s).2, ?_, hm.1, hm.2.1, hx, rfl⟩
  have e : cutP s = spR (pay k.1 (say s).2) 0 0 := by
    have := cutP_tok k (say s).2
    rw [ht] at this
    exact this
  rw [e, un_sp]

#print axioms sg_reads
end Go.Proofs.YthhcaalafacjlaaDoor
end
