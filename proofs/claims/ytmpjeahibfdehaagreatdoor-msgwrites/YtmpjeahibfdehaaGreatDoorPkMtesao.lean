/-
  jsonx: strings.IndexRune among the letters that may stand behind a stroke; escape.; jsonx: escape.
-/
import Derived.Test.YtmpjeahibfdehaaGreatDoorPkMtesaf
import Derived.Test.YtmpjeahibfdehaaGreatDoorPkMtesaa
import Derived.Laws.RangeAny
import Derived.Laws.Runes
import Derived.WalkMore
section
set_option linter.unusedVariables false
set_option maxRecDepth 1000000
namespace Go.Proofs.YtmpjeahibfdehaaGreatDoor
open Go.RowKit

abbrev escL : ByteArray := ⟨#[34, 92, 47, 98, 102, 110, 114, 116]⟩
def escLl : List UInt8 := [34, 92, 47, 98, 102, 110, 114, 116]
set_option maxHeartbeats 1000000 in
theorem slIdx4 (s : ByteArray) (c : UInt8) (w : World) :
  Calls Tryz.prog 158 #[.string s, .int .u8 (c.toNat : Int)] w fun e w' => e = .returned (.int .i64 (Lib.indexByte s.data.toList c)) ∧ w' = w := by
 have hrun : (Extern.BytealgIndexByte.indexByte #[.string s, .int .u8 (c.toNat : Int)]).run Tryz.prog w = .ok (.int .i64 (Lib.indexByte s.data.toList c)) w := by
  rw [Lib.run_indexByteString]
  congr 3
  simp
 go_enter Tryz.func158, Tryz.ntmps158
 go_wp2
 rw [run_callFunc_extern Tryz.func175 (by kernel_rfl) (by kernel_rfl) (by kernel_rfl) (e := Extern.BytealgIndexByte.indexByte) (by kernel_rfl), hrun]
 simp only [Result.andThen]
 rw [Oper.upon_value]
 go_wp2
 go_ret
 exact ⟨rfl, rfl⟩
set_option maxHeartbeats 1000000 in
theorem sIdx4 (s : ByteArray) (c : UInt8) (w : World) :
  Calls Tryz.prog 129 #[.string s, .int .u8 (c.toNat : Int)] w fun e w' => e = .returned (.int .i64 (Lib.indexByte s.data.toList c)) ∧ w' = w := by
 go_enter Tryz.func129, Tryz.ntmps129
 go_wp2_with (go_at_call 158; refine (slIdx4 s c _).mono ?_; rintro e w2 ⟨rfl, rfl⟩)
 go_ret
 exact ⟨rfl, rfl⟩
theorem irune_low4 (x : UInt8) (hx : x.toNat < 128) (w : World) :
  Calls Tryz.prog 167 #[.string escL, .int .i32 (x.toNat : Int)] w fun e w' => e = .returned (.int .i64 (Lib.indexByte escLl x)) ∧ w' = w := by
 have := Any.strings_IndexRune_ascii (ρ := Tryz.lays152_ren) Tryz.lays152 escL (x.toNat : Int) w (by omega) (by omega)
 refine Calls.mono this ?_
 rintro e w' ⟨rfl, rfl⟩
 exact ⟨by simp [escLl], rfl⟩
set_option maxHeartbeats 1000000 in
theorem irune_end4 (w : World) :
  Calls Tryz.prog 167 #[.string escL, .int .i32 (-1)] w fun e w' => e = .returned (.int .i64 (-1)) ∧ Hid (Below w.heap.size w w') := by
 have HV : Hid (∀ w : World, Calls Tryz.prog 189 #[.int .i32 (-1)] w fun e w' => e = .returned (.bool false) ∧ w' = w) := by
  intro w
  go_enter Tryz.func189, Tryz.ntmps189
  go_wp2
  go_ret
  exact ⟨rfl, rfl⟩
 have HB := hide (Below.refl w.heap.size w)
 go_enter Tryz.func167, Tryz.ntmps167
 go_wp2_with (go_at_call 189; refine (uh HV _).mono ?_; rintro e w2 ⟨rfl, hw⟩; have hw := hw.symm; subst hw)
 go_ret
 exact ⟨rfl, HB⟩
theorem enc2 : ∀ k : Fin 256, 128 ≤ k.val → (Utf8.encode (k.val : Int)).size = 2 ∧ 128 ≤ ((Utf8.encode (k.val : Int)).get! 1).toNat := by decide +kernel
set_option maxHeartbeats 4000000 in
theorem irune_high4 (x : UInt8) (hx : 128 ≤ x.toNat) (w : World) :
  Calls Tryz.prog 167 #[.string escL, .int .i32 (x.toNat : Int)] w fun e w' => e = .returned (.int .i64 (-1)) ∧ Hid (Below w.heap.size w w') := by
 obtain ⟨r, hr⟩ : ∃ r : Int, r = (x.toNat : Int) := ⟨_, rfl⟩
 have hx2 := x.toNat_lt
 have hE2 := enc2 ⟨x.toNat, x.toNat_lt⟩ hx
 simp only at hE2
 rw [← hr] at hE2 ⊢
 have h0 : 128 ≤ r := by omega
 have h1 : r ≤ 255 := by omega
 clear hr hx hx2
 have d0 : decide ((0 : Int) ≤ r) = true := decide_eq_true (by omega)
 have d1 : decide (r < 128) = false := decide_eq_false (by omega)
 have hne : (r == 65533) = false := by simp; omega
 have HV : Hid (∀ w : World, Calls Tryz.prog 189 #[.int .i32 r] w fun e w' => e = .returned (.bool true) ∧ w' = w) := by
  intro w
  have d2 : decide (r < 55296) = true := decide_eq_true (by omega)
  go_enter Tryz.func189, Tryz.ntmps189
  go_wp2
  go_ret
  exact ⟨rfl, rfl⟩
 obtain ⟨hs2, hl⟩ := hE2
 obtain ⟨E, hE⟩ : ∃ E, Utf8.encode r = E := ⟨_, rfl⟩
 rw [hE] at hs2 hl
 have hcv : ∀ w, (convert 21 9 (.int .i32 r)).run Tryz.prog w = .ok (.string E) w := fun w => by
  rw [run_convert_int_string w _ _ .i32 r (by rw [Tryz.underlying21]; rfl) Tryz.underlying9, hE]
 obtain ⟨y, hy⟩ : ∃ y, E.get! 1 = y := ⟨_, rfl⟩
 rw [hy] at hl
 have hix : ∀ w, (Instr.index 9 (.string E) (.int .i64 1)).run Tryz.prog w = .ok (.int .u8 (y.toNat : Int)) w := fun w => by
  have hEs : E = str E.data.toList := by cases E; simp [str]
  rw [hEs]
  refine run_ix4 w E.data.toList 1 y ?_
  rw [← hy]
  cases E with
  | mk dd =>
   have : 1 < dd.size := by have := hs2; simp [ByteArray.size] at this; omega
   simp [ByteArray.get!, this]
 have hi9 : ∀ w, (Instr.index 9 (.string escL) (.int .i64 1)).run Tryz.prog w = .ok (.int .u8 92) w := fun w => run_ix4 w escLl 1 92 rfl
 have key : ∀ l : List UInt8, (∀ c ∈ l, c.toNat < 128) → Lib.indexByte l y = -1 := by
  intro l
  induction l with
  | nil => intro _; rfl
  | cons c l ih =>
   intro hc
   have h2 := ih (fun c h => hc c (by simp [h]))
   have h3 := hc c (by simp)
   have : (c == y) = false := by rw [beq_eq_false_iff_ne]; rintro rfl; omega
   simp [Lib.indexByte, this, h2]
 have hm1 : Lib.indexByte [47, 98, 102, 110, 114, 116] y = -1 := key _ (by decide)
 have hm2 : Lib.indexByte (escL.extract 2 8).data.toList y = -1 := hm1
 have hn9 : ((92 : Int) != (y.toNat : Int)) = true := by simp; omega
 have hsz : (E.size : Int) = 2 := by omega
 have HI := hide (fun s w => sIdx4 s y w)
 have hy256 := y.toNat_lt
 clear hs2 hl hy hE key
 go_enter Tryz.func167, Tryz.ntmps167
 go_wp2_with (go_at_call 189; refine (uh HV _).mono ?_; rintro e w2 ⟨rfl, hw⟩; have hw := hw.symm; subst hw)
 go_step3
 go_wp2
 refine wp_loop_rounds 1 ?_
 rw [rounds_succ]
 go_wp2
 go_step3
 go_wp2
 go_quiet (fail)
 have HBy := hide (bdj (Below.refl w.heap.size w) nq)
 generalize w.drewN nq = yy at *
 go_wp2
 go_quiet ((go_at_call 129; exact Calls.quiet_of_same (uh HI _ _)))
 go_wp2
 simp only [Exit.noGoto, Exit.inBlock, Exit.then]
 go_ret
 exact ⟨rfl, bdj (uh HBy) nq⟩
end Go.Proofs.YtmpjeahibfdehaaGreatDoor
end
section
set_option linter.unusedVariables false
set_option maxRecDepth 1000000
namespace Go.Proofs.YtmpjeahibfdehaaGreatDoor
open Go.RowKit

/-- What a letter behind a stroke means, by its place. -/
theorem esc_tab : ∀ k : Fin 256, (escV (UInt8.ofNat k.val) = none ∧ Lib.indexByte escLl (UInt8.ofNat k.val) = -1) ∨ ∃ i n : Fin 128, escV (UInt8.ofNat k.val) = some n.val ∧ Lib.indexByte escLl (UInt8.ofNat k.val) = (i.val : Int) ∧ ([34, 92, 47, 8, 12, 10, 13, 9] : List UInt8)[i.val]? = some (UInt8.ofNat n.val) := by decide +kernel
theorem esc_c (c : UInt8) : (escV c = none ∧ Lib.indexByte escLl c = -1) ∨ ∃ i n : Nat, i < 128 ∧ n < 128 ∧ escV c = some n ∧ Lib.indexByte escLl c = (i : Int) ∧ ([34, 92, 47, 8, 12, 10, 13, 9] : List UInt8)[i]? = some (UInt8.ofNat n) := by
 have h := esc_tab ⟨c.toNat, c.toNat_lt⟩
 simp only [UInt8.ofNat_toNat] at h
 rcases h with h | ⟨i, n, h1, h2, h3⟩
 ·exact .inl h
 ·exact .inr ⟨i.val, n.val, i.isLt, n.isLt, h1, h2, h3⟩
theorem esc_high (c : UInt8) (h : 128 ≤ c.toNat) : escV c = none := by
 have key : ∀ k : Fin 256, 128 ≤ k.val → escV (UInt8.ofNat k.val) = none := by decide +kernel
 have := key ⟨c.toNat, c.toNat_lt⟩ h
 simpa using this
/-- strings.IndexRune of the next byte among the letters. -/
theorem irune4 (l : List UInt8) (w : World) : Calls Tryz.prog 167 #[.string escL, .int .i32 (nxI l)] w fun e w' => ∃ i : Int, e = .returned (.int .i64 i) ∧ Hid (Below w.heap.size w w') ∧ Hid (match l with | [] => i = -1 | c :: _ => (escV c = none ∧ i = -1) ∨ ∃ (j n : Nat), j < 128 ∧ n < 128 ∧ escV c = some n ∧ i = (j : Int) ∧ ([34, 92, 47, 8, 12, 10, 13, 9] : List UInt8)[j]? = some (UInt8.ofNat n)) := by
 cases l with
 | nil =>
  refine (irune_end4 w).mono ?_
  rintro e w' ⟨rfl, hb⟩
  exact ⟨-1, rfl, hb, rfl⟩
 | cons c r =>
  by_cases h : c.toNat < 128
  ·refine (irune_low4 c h w).mono ?_
   rintro e w' ⟨rfl, rfl⟩
   refine ⟨_, rfl, Below.refl _ _, ?_⟩
   exact esc_c c
  ·refine (irune_high4 c (by omega) w).mono ?_
   rintro e w' ⟨rfl, hb⟩
   exact ⟨-1, rfl, hb, .inl ⟨esc_high c (by omega), rfl⟩⟩
set_option maxHeartbeats 4000000 in
theorem escape_any (P : Nat) (T : List UInt8) (a d : Nat) (w : World) (h : Pa w P T a d) :
  Calls Tryz.prog 141 #[.pointer (some ⟨P, 0, none⟩)] w fun e w' => Po RR4 T w P d (esM (T.drop a)) e w' := by
 have hbig := h.big
 have HT := hide (take_any P T a d 92 w h)
 obtain ⟨RES, hRES⟩ : ∃ RES, RES = esM (T.drop a) := ⟨_, rfl⟩
 rw [← hRES]
 unfold esM at hRES
 have HRES := hide hRES
 clear h hRES
 go_enter Tryz.func141, Tryz.ntmps141
 go_wp2_with fail
 refine (uh HT).mono ?_
 rintro e w1 (⟨n, val, a1, hM, rfl, hP1, hM1, hval⟩ | ⟨y, a1, hM, rfl, h2, h3⟩)
 ·obtain rfl : val = .tuple #[] := hval
  have HN := hide (next_any P T a1 d w1 hP1)
  rw [hM] at HRES
  have HM1 := hide hM1
  have hle1 := hP1.le
  clear HT hP1 hM1 hM
  cases hl : T.drop a1 with
  | nil =>
   rw [hl] at HRES HN
   simp only at HRES
   rw [show nxI [] = -1 from rfl] at HN
   have HE : Hid (RES = .no (T.drop a1) 40) := by show _ = _; rw [uh HRES, hl]
   go_wp2_with fail
   refine (uh HN).mono ?_
   rintro e w2 ⟨rfl, HP2, HB2⟩
   have hN2 := next_any P T a1 d w2 (uh HP2)
   rw [hl, show nxI [] = -1 from rfl] at hN2
   have HN2 := hide hN2
   clear HN hN2
   go_wp2_with fail
   refine (uh HN2).mono ?_
   rintro e w3 ⟨rfl, HP3, HB3⟩
   have HI := hide (irune4 [] w3)
   rw [show nxI [] = -1 from rfl] at HI
   clear HN2
   go_wp2_with fail
   refine (uh HI).mono ?_
   rintro e w4 ⟨i, rfl, HB4, hi⟩
   obtain rfl : i = -1 := uh hi
   have HP4 := hide ((uh HP3).below (uh HB4))
   have HG := hide (giveUp_any P T a1 d 40 w4 (uh HP4))
   have HM4 : Hid (Mv w w4 P) := (uh HM1).trans ((Mv.ofB (uh HB2)).trans ((Mv.ofB (uh HB3)).trans (Mv.ofB (uh HB4))))
   clear HI hi
   go_wp2_with fail
   refine (uh HG).mono ?_
   rintro e w5 ⟨rfl, hw5⟩
   subst hw5
   exact ⟨rfl, Po.nay (uh HE) hle1 (uh HM4)⟩
  | cons c r =>
   obtain ⟨hlt, _, hdr⟩ := drop_cons hl
   rw [hl] at HRES HN
   simp only at HRES
   rw [show nxI (c :: r) = (c.toNat : Int) from rfl] at HN
   have hc256 := c.toNat_lt
   by_cases h117 : c = 117
   ·subst h117
    simp only [if_true] at HRES
    rw [show ((117 : UInt8).toNat : Int) = 117 from rfl] at HN
    go_wp2_with fail
    refine (uh HN).mono ?_
    rintro e w2 ⟨rfl, HP2, HB2⟩
    obtain ⟨c0, c1, c2, cf⟩ := (uh HP2).cells
    have f1 := cf 1
    obtain ⟨k1, k2⟩ := (uh HP2).inc hlt
    obtain ⟨W, hW⟩ : ∃ W, W = w2.setCell ⟨P, 1, none⟩ (.int .i64 ((a1 : Int) + 1)) := ⟨_, rfl⟩
    rw [← hW] at k1 k2
    have hH := hexCharacter_any P T (a1 + 1) d W k1
    have HH := hide hH
    have HM2 : Hid (Mv w W P) := (uh HM1).trans ((Mv.ofB (uh HB2)).trans k2)
    clear HN k1 k2 cf c0 c2 hH
    go_wp2_with fail
    rw [← hW]
    clear hW c1 f1
    refine (uh HH).mono ?_
    rintro e w4 (⟨n, val, a4, hM4, rfl, hP4, hMv4, rfl, hru⟩ | ⟨y, a4, hM4, rfl, h2, h3⟩)
    ·have HE : Hid (RES = .ok n (T.drop a4)) := by show _ = _; rw [uh HRES, ← hdr, hM4]
     have HR := hide hru
     have HP4 := hide hP4
     have HM4 : Hid (Mv w w4 P) := (uh HM2).trans hMv4
     clear HH hM4 hP4 hMv4 hru
     go_wp2_with fail
     go_ret
     exact Po.yes (uh HE) (uh HP4) (uh HM4) ⟨rfl, uh HR⟩
    ·exact ⟨rfl, Po.nay (by rw [uh HRES, ← hdr, hM4]) h2 ((uh HM2).trans h3)⟩
   ·have hne : ¬ (c.toNat : Int) = 117 := fun e => h117 (UInt8.toNat_inj.1 (by show c.toNat = 117; omega))
    rw [if_neg h117] at HRES
    have hw32 : wrap32 (c.toNat : Int) = (c.toNat : Int) := by unfold wrap32; omega
    go_wp2_with fail
    refine (uh HN).mono ?_
    rintro e w2 ⟨rfl, HP2, HB2⟩
    have hN2 := next_any P T a1 d w2 (uh HP2)
    rw [hl, show nxI (c :: r) = (c.toNat : Int) from rfl] at hN2
    have HN2 := hide hN2
    clear HN hN2
    go_wp2_with fail
    refine (uh HN2).mono ?_
    rintro e w3 ⟨rfl, HP3, HB3⟩
    have HI := hide (irune4 (c :: r) w3)
    rw [show nxI (c :: r) = (c.toNat : Int) from rfl] at HI
    clear HN2
    go_wp2_with fail
    refine (uh HI).mono ?_
    rintro e w4 ⟨i, rfl, HB4, hi⟩
    have HP4 := hide ((uh HP3).below (uh HB4))
    have HM4 : Hid (Mv w w4 P) := (uh HM1).trans ((Mv.ofB (uh HB2)).trans ((Mv.ofB (uh HB3)).trans (Mv.ofB (uh HB4))))
    rcases uh hi with ⟨he, hi1⟩ | ⟨j, n, hj, hn, he, hi1, hg⟩
    ·subst hi1
     have HE : Hid (RES = .no (T.drop a1) 40) := by show _ = _; rw [uh HRES, hl, he]
     have HG := hide (giveUp_any P T a1 d 40 w4 (uh HP4))
     clear HI hi he
     go_wp2_with fail
     refine (uh HG).mono ?_
     rintro e w5 ⟨rfl, hw5⟩
     subst hw5
     exact ⟨rfl, Po.nay (uh HE) hle1 (uh HM4)⟩
    ·subst hi1
     have HE : Hid (RES = .ok n (T.drop (a1 + 1))) := by show _ = _; rw [uh HRES, he, hdr]
     obtain ⟨c0, c1, c2, cf⟩ := (uh HP4).cells
     have f1 := cf 1
     obtain ⟨k1, k2⟩ := (uh HP4).inc hlt
     have HP5 := hide k1
     have HM5 : Hid (Mv w (w4.setCell ⟨P, 1, none⟩ (.int .i64 ((a1 : Int) + 1))) P) := (uh HM4).trans k2
     have hix : ∀ w, (Instr.index 9 (.string ⟨#[34, 92, 47, 8, 12, 10, 13, 9]⟩) (.int .i64 (j : Int))).run Tryz.prog w = .ok (.int .u8 (n : Int)) w := fun w => by
      have := run_ix4 w [34, 92, 47, 8, 12, 10, 13, 9] j (UInt8.ofNat n) hg
      rw [show ((UInt8.ofNat n).toNat : Int) = (n : Int) by simp; omega] at this
      exact this
     have hj0 : ¬ (j : Int) < 0 := by omega
     have hnw : wrap32 (n : Int) = (n : Int) := by unfold wrap32; omega
     clear HI hi he hg k1 k2 cf c0 c2
     go_wp2_with fail
     go_ret
     exact Po.yes (uh HE) (uh HP5) (uh HM5) ⟨rfl, by omega, by omega⟩
 ·exact ⟨rfl, Po.nay (by rw [uh HRES, hM]) h2 h3⟩
end Go.Proofs.YtmpjeahibfdehaaGreatDoor
end
