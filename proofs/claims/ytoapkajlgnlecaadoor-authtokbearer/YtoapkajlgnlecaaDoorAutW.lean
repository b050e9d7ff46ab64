/-
  authtok: THE WALKS of the statements' one and awake.
-/
import Derived.Test.YtoapkajlgnlecaaDoorAutR
import Derived.Lib.SlBytesConst
set_option linter.unusedVariables false
set_option maxRecDepth 1000000
namespace Go.Proofs.YtoapkajlgnlecaaDoor
open Go.RowKit

def k16 : List UInt8 := List.replicate 16 107
theorem k16_bs (w : World) (o : Nat × Nat) : Bs (w.alloc (.cells (bs k16).toArray 5 o)) (some ⟨w.heap.size, 0, none⟩) 16 k16 := by
  refine ⟨fun _ => ⟨w.heap.size, 0, rfl, fun i hi => ?_⟩, Nat.le_refl _, by unfold maxLen; decide, fun h => by cases h⟩
  rw [Nat.zero_add, cell_of_row _ _ i _ _ _ (heap_alloc_new w _), ← bs_get k16 i hi]
  simp
set_option maxHeartbeats 2000000 in
theorem one_any (id : Int) (w : World) :
    Calls Tryd.prog 8 #[.int .i64 id] w fun e w' => ∃ a, e = .returned (.agg #[.int .i64 id, .slice a 16 16]) ∧ Hid (Bs w' a 16 k16) ∧ Hid (Below w.heap.size w w') := by
  have kc : ∀ (C : Array Value), (convert 23 23 (.slice (some ⟨w.heap.size + 1, 0, none⟩) 16 16)).run Tryd.prog ((w.alloc (.cells #[.int .i64 0, .slice none 0 0] 38)).alloc (.cells C 5)) = .ok (.slice (some ⟨w.heap.size + 1, 0, none⟩) 16 16) ((w.alloc (.cells #[.int .i64 0, .slice none 0 0] 38)).alloc (.cells C 5 (C.size, C.size + 1))) := by
    intro C
    have := Lib.run_convert_bytes_const (P := Tryd.prog) (w.alloc (.cells #[.int .i64 0, .slice none 0 0] 38)) 23 5 C 16 16 Tryd.underlying23 Tryd.underlying5
    rw [show (w.alloc (.cells #[.int .i64 0, .slice none 0 0] 38)).heap.size = w.heap.size + 1 by simp] at this
    exact this
  go_enter Tryd.func8, Tryd.ntmps8
  go_wp2
  refine bodyPost_ret (v := .agg #[.int .i64 id, .slice (some ⟨w.heap.size + 1, 0, none⟩) 16 16]) (by simp [results, Tryd.results8, go_sem]) rfl ⟨some ⟨w.heap.size + 1, 0, none⟩, rfl, ?_, ((Below.refl _ _).alloc (Nat.le_refl _) _).alloc (by simp) _⟩
  have := k16_bs (w.alloc (.cells #[.int .i64 id, .slice (some ⟨w.heap.size + 1, 0, none⟩) 16 16] 38)) (16, 17)
  rw [show (w.alloc (.cells #[.int .i64 id, .slice (some ⟨w.heap.size + 1, 0, none⟩) 16 16] 38)).heap.size = w.heap.size + 1 by simp] at this
  exact this

def c0 : Cl := ⟨[99, 49], [103], 1000⟩
theorem pay0 : pay 1 c0 = [1, 2, 99, 49, 1, 103, 249, 3, 232] := by decide +kernel
theorem sp_pay0 : spR (pay 1 c0) 0 0 = [65, 81, 74, 106, 77, 81, 70, 110, 45, 81, 80, 111] := by
  rw [pay0, sp3, sp3, sp3, sp0]
  decide +kernel
theorem ck0 : ckOk [((1 : Int), k16)] = true := by decide +kernel
theorem cl0 : clOk c0 = 0 := by decide +kernel
theorem mk0 : mkT [((1 : Int), k16)] c0 = (0, tok (1, k16) c0) := by
  unfold mkT
  rw [if_neg (by rw [ck0]; simp), if_neg (by rw [cl0]; simp)]
  rfl
theorem tok0 : ∃ T, tok (1, k16) c0 = T ∧ T.length = 56 ∧ T.take 13 = [65, 81, 74, 106, 77, 81, 70, 110, 45, 81, 80, 111, 46] := by
  refine ⟨_, rfl, ?_, ?_⟩
  · simp only [tok, sp_pay0, List.length_append, List.length_cons, List.length_nil, sp_length, mac_length]
  · unfold tok
    rw [sp_pay0]
    rfl

/-- A new row of one secret. -/
theorem sec1 (W : World) (a : Option Addr) (h : Bs W a 16 k16) : SecR (W.alloc (.cells #[.int .i64 1, .slice a 16 16] 38)) (some ⟨W.heap.size, 0, none⟩) [(1, k16)] := by
  refine ⟨fun _ => ⟨W.heap.size, 0, rfl, fun i s hs => ?_⟩, fun s hs => ?_⟩
  · have hi : i = 0 := by
      have := (List.getElem?_eq_some_iff.1 hs).1
      simp at this
      exact this
    subst hi
    simp at hs
    subst hs
    exact ⟨a, 16, by simp, by simp [k16], h.alloc _⟩
  · simp at hs
    subst hs
    simp

set_option maxHeartbeats 8000000 in
theorem awake_core (T : List UInt8) (hm : mkT [((1 : Int), k16)] c0 = (0, T)) (hl : T.length = 56) (ht : T.take 13 = [65, 81, 74, 106, 77, 81, 70, 110, 45, 81, 80, 111, 46]) (h1 : rdT [((1 : Int), k16)] 999 T = (0, c0)) (h2 : rdT [((1 : Int), k16)] 1000 T = (101, Cl.zero)) (w : World) (hT : Tb w) :
    Calls Tryd.prog 4 #[] w fun e w' => e = .returned (.bool true) ∧ Below w.heap.size w w' := by
  have HT := hide hT
  have HM := hide hm
  have hsz : (str T).size = 56 := by rw [str_size]; exact hl
  have HL := hide hl
  have HTK : Hid ((str T).extract 0 13 = str [65, 81, 74, 106, 77, 81, 70, 110, 45, 81, 80, 111, 46]) := by show _ = _; rw [str_take, ht]
  have H1 := hide h1
  have H2 := hide h2
  clear hT hm hl ht h1 h2
  have HO : Hid (∀ W, Hid (InvS w w.heap.size [99, 49] [103] 1000 W) → Calls Tryd.prog 8 #[.int .i64 1] W fun e W' => ∃ a, e = .returned (.agg #[.int .i64 1, .slice a 16 16]) ∧ Hid (Bs W' a 16 k16) ∧ Hid (InvS w w.heap.size [99, 49] [103] 1000 W')) := by
    intro W h
    refine (one_any 1 W).mono ?_
    rintro e W' ⟨a, rfl, h1, h2⟩
    exact ⟨a, rfl, h1, h.out.next h2.out⟩
  have HMK : Hid (∀ W a, Hid (InvS w w.heap.size [99, 49] [103] 1000 W) → Hid (Bs W a 16 k16) → Calls Tryd.prog 7 #[.slice (some ⟨W.heap.size, 0, none⟩) 1 1, .agg #[.string ⟨#[99, 49]⟩, .string ⟨#[103]⟩, .int .i64 1000]] (W.alloc (.cells #[.int .i64 1, .slice a 16 16] 38)) fun e W' => e = .returned (.tuple #[.string (str T), .int .i64 0]) ∧ Hid (InvS w w.heap.size [99, 49] [103] 1000 W')) := by
    intro W a h hB
    have hI := h.out.next ((Below.refl W.heap.size W).alloc (Nat.le_refl _) (.cells #[.int .i64 1, .slice a 16 16] 38))
    refine (make_core (some ⟨W.heap.size, 0, none⟩) 1 [(1, k16)] [99, 49] [103] 1000 _ (sec1 W a hB.out) (HT.out.below hI.1 HT.out.big) (by simp) (by simp) (by simp) (by omega) (by omega)).mono ?_
    rintro e W' ⟨E, t, rfl, hE, hb⟩
    rw [show (⟨[99, 49], [103], 1000⟩ : Cl) = c0 from rfl, HM.out] at hE
    obtain ⟨rfl, rfl⟩ := Prod.mk.inj hE.out
    exact ⟨rfl, hI.next hb.out⟩
  have HRD : Hid (∀ W a now E c g u, ((now = 999 ∧ E = 0 ∧ c = [99, 49] ∧ g = [103] ∧ u = 1000) ∨ (now = 1000 ∧ E = 101 ∧ c = [] ∧ g = [] ∧ u = 0)) → Hid (InvS w w.heap.size [99, 49] [103] 1000 W) → Hid (Bs W a 16 k16) → Calls Tryd.prog 9 #[.slice (some ⟨W.heap.size, 0, none⟩) 1 1, .int .i64 now, .string (str T)] (W.alloc (.cells #[.int .i64 1, .slice a 16 16] 38)) fun e W' => e = .returned (.tuple #[.agg #[.string (str c), .string (str g), .int .i64 u], .int .i64 E]) ∧ Hid (Below W.heap.size W W')) := by
    intro W a now E c g u hv h hB
    have hB1 := (Below.refl W.heap.size W).alloc (Nat.le_refl _) (.cells #[.int .i64 1, .slice a 16 16] 38)
    have hI := h.out.next hB1
    have hr : rdT [((1 : Int), k16)] now T = (E, ⟨c, g, u⟩) := by
      rcases hv with ⟨rfl, rfl, rfl, rfl, rfl⟩ | ⟨rfl, rfl, rfl, rfl, rfl⟩
      · exact H1.out
      · exact H2.out
    refine (read_any (some ⟨W.heap.size, 0, none⟩) 1 [(1, k16)] now T _ (sec1 W a hB.out) (HT.out.below hI.1 HT.out.big) (by simp) (by simp) (by unfold maxLen; omega) (by rw [HL.out]; omega)).mono ?_
    rintro e W' ⟨E', c', g', u', rfl, hE, hb⟩
    rw [hr] at hE
    have h1 := Prod.mk.inj hE.out
    have h2 := h1.2
    simp only [Cl.mk.injEq] at h2
    obtain ⟨rfl, rfl, rfl⟩ := h2
    obtain rfl := h1.1
    exact ⟨rfl, hB1.trans (hb.out.mono hB1.size)⟩
  have HI0 : Hid (InvS w w.heap.size [99, 49] [103] 1000 (w.alloc (.cells #[.string ⟨#[99, 49]⟩, .string ⟨#[103]⟩, .int .i64 1000] 33)).drew) :=
    InvS.next ⟨(Below.refl _ _).alloc (Nat.le_refl _) _, ClC.new w [99, 49] [103] 1000⟩ (Below.refl _ _).drew
  go_enter Tryd.func4, Tryd.ntmps4
  go_wp2
  go_region_with (first
    | (go_at_call 8; refine (HO.out _ (by assumption)).mono ?_; rintro e w3 ⟨a3, rfl, hB3, hI3⟩; obtain ⟨q0, q1, q2⟩ := hI3.out.2; have hlt3 := hI3.out.2.lt)
    | (go_at_call 7; refine (HMK.out _ _ (by assumption) (by assumption)).mono ?_; rintro e w4 ⟨rfl, hI4⟩))
  all_goals
    clear q0 q1 q2 hlt3 hB3 hI3 HMK HM HI0
    go_wp2_with fail
    refine (HO.out _ hI4).mono ?_
    rintro e w5 ⟨a5, rfl, hB5, hI5⟩
    go_wp2_with fail
    refine (HRD.out w5 a5 999 0 _ _ _ (.inl ⟨rfl, rfl, rfl, rfl, rfl⟩) hI5 hB5).mono ?_
    rintro e w6 ⟨rfl, hb6⟩
    have hI6 := hI5.out.next hb6.out
    go_wp2_with fail
    have HX := hide (ClC.new w6 [99, 49] [103] 1000)
    have hI7 := hide (hI6.next ((Below.refl w6.heap.size w6).alloc (Nat.le_refl _) (.cells #[.string (str [99, 49]), .string (str [103]), .int .i64 1000] 33)))
    generalize w6.alloc (.cells #[.string (str [99, 49]), .string (str [103]), .int .i64 1000] 33) = w7 at *
    generalize w6.heap.size = X at *
    clear hI4 hI5 hB5 hb6 hI6
    refine (one_any 1 w7).mono ?_
    rintro e w8 ⟨a8, rfl, hB8, hb8⟩
    have HX8 := hide (HX.out.below hb8.out (Nat.le_refl _))
    have hI8 := hide (hI7.out.next hb8.out)
    clear HX hI7 hb8
    go_wp2_with fail
    refine (HRD.out w8 a8 1000 101 _ _ _ (.inr ⟨rfl, rfl, rfl, rfl, rfl⟩) hI8 hB8).mono ?_
    rintro e w9 ⟨rfl, hb9⟩
    have HX9 := hide (HX8.out.below hb9.out (Nat.le_refl _))
    have hI9 := hide (hI8.out.next hb9.out)
    clear HX8 hI8 hb9 hB8 HRD HO
    obtain ⟨x0, x1, x2⟩ := HX9.out
    obtain ⟨y0, y1, y2⟩ := hI9.out.2
    have hx := HX9.out.lt
    have hy := hI9.out.2.lt
    have e1 : str [99, 49] = (⟨#[99, 49]⟩ : ByteArray) := rfl
    have e2 : str [103] = (⟨#[103]⟩ : ByteArray) := rfl
    have tk : (str T).extract 0 13 = (⟨#[65, 81, 74, 106, 77, 81, 70, 110, 45, 81, 80, 111, 46]⟩ : ByteArray) := HTK.out
    have HB9 : Hid (∀ o, Below w.heap.size w (w9.alloc o)) := fun o => hI9.out.1.alloc hI9.out.1.size o
    go_wp2
    go_ret
    exact ⟨rfl, HB9.out _⟩
theorem awake_any (w : World) (hT : Tb w) : Calls Tryd.prog 4 #[] w fun e w' => e = .returned (.bool true) ∧ Below w.heap.size w w' := by
  obtain ⟨T, hT0, hl, ht⟩ := tok0
  have r1 := rd_mk [((1 : Int), k16)] 0 (1, k16) c0 999 ck0 rfl cl0
  have r2 := rd_mk [((1 : Int), k16)] 0 (1, k16) c0 1000 ck0 rfl cl0
  rw [hT0] at r1 r2
  refine awake_core T (by rw [mk0, hT0]) hl ht ?_ ?_ w hT
  · rw [r1]; rfl
  · rw [r2]; rfl
#print axioms awake_any
end Go.Proofs.YtoapkajlgnlecaaDoor
