/-
  httpd: strings.Split; readFirst.
-/
import Derived.Test.YthkadboeokgjnacGreatDoorHhC
import Derived.Deep.QuietTactic
import Derived.BigQuiet
set_option linter.unusedVariables false
set_option maxRecDepth 1000000
namespace Go.Proofs.YthkadboeokgjnacGreatDoor
open Go.RowKit

/-- internal/bytealg.MaxLen is a number. -/
def Mx (w : World) : Prop := ∃ m : Int, w.cell? ⟨0, 0, none⟩ = some (.int .i64 m)
theorem Mx.below {w w' : World} {B : Nat} (h : Mx w) (hb : Below B w w') (hB : w.heap.size ≤ B) : Mx w' := by
  obtain ⟨m, hm⟩ := h
  exact ⟨m, by rw [hb.cell (Nat.lt_of_lt_of_le (World.block_lt_of_cell? w _ hm) hB)]; exact hm⟩
/-- Texts that are read. -/
structure NsO (w : World) (p : Option Addr) (L : List (List UInt8)) : Prop where
  mem : L ≠ [] → ∃ b off, p = some ⟨b, off, none⟩ ∧ ∀ t h, L[t]? = some h → w.cell? ⟨b, off + t, none⟩ = some (.string (str h))
theorem NsO.below {w w' : World} {B : Nat} {p : Option Addr} {L : List (List UInt8)} (h : NsO w p L) (hb : Below B w w') (hB : w.heap.size ≤ B) : NsO w' p L := by
  refine ⟨fun hne => ?_⟩
  obtain ⟨b, off, e, hc⟩ := h.mem hne
  refine ⟨b, off, e, fun t x hx => ?_⟩
  rw [hb.cell (Nat.lt_of_lt_of_le (World.block_lt_of_cell? w _ (hc t x hx)) hB)]
  exact hc t x hx
theorem str_eq (B : ByteArray) (x : List UInt8) (h : x = B.data.toList) : B = str x := by subst h; cases B; simp [str]
theorem split_len (sep : List UInt8) : ∀ (k : Nat) (l : List UInt8), ∀ x ∈ Lib.splitK sep 0 k l, x.length ≤ l.length
  | 0, l, x, hx => by simp [Lib.splitK] at hx; simp [hx]
  | k + 1, l, x, hx => by
    unfold Lib.splitK at hx
    split at hx
    · simp at hx; simp [hx]
    · rcases List.mem_cons.1 hx with rfl | h
      · simp; omega
      · have := split_len sep k _ x h
        simp at this; omega
theorem info9s : (Tryz.prog.info? (Tryz.lays146_ren.t 9)).map (fun i => (i.zero, i.size, i.bytes)) = some (some (.string ByteArray.empty), 1, 16) := by kernel_rfl
theorem split_gen (l sep : List UInt8) (w : World) (hl : l.length ≤ 1000000) (hm : Mx w) (h1 : 1 ≤ sep.length) :
    Calls Tryz.prog 27 #[.string (str l), .string (str sep)] w fun e w' => ∃ b c L, e = .returned (.slice (some ⟨b, 0, none⟩) L.length c) ∧ Hid (L = Lib.split l sep) ∧ L.length ≤ c ∧ 1 ≤ L.length ∧ L.length ≤ 1000001 ∧ Hid (∀ x ∈ L, x.length ≤ l.length) ∧ Hid (NsO w' (some ⟨b, 0, none⟩) L) ∧ Hid (Below w.heap.size w w') := by
  obtain ⟨m, hm⟩ := hm
  have hz1 : (str sep).size = sep.length := str_size sep
  have hz2 : (str l).size = l.length := str_size l
  have h := Any.strings_Split (ρ := Tryz.lays146_ren) Tryz.lays146 info9s (str l) (str sep) m w (by omega) hm (by omega)
  refine h.mono ?_
  rintro e w' ⟨rfl, rfl⟩
  have hdat := Lib.splitB_data (str sep) 0 (Lib.countB (str l) (str sep)) (str l)
  have hsp : Lib.splitK (str sep).data.toList 0 (Lib.countB (str l) (str sep)) (str l).data.toList = Lib.split l sep := rfl
  rw [hsp] at hdat
  have hlen := Lib.splitB_all (str sep) (by omega) 0 _ (str l) rfl
  have hll : (Lib.split l sep).length = Lib.countB (str l) (str sep) + 1 := by rw [← hdat, List.length_map, hlen]
  have hcb := Lib.countB_le (str sep) (by omega) (str l).size (str l) (Nat.le_refl _)
  refine ⟨w.heap.size, Lib.countB (str l) (str sep) + 1, Lib.split l sep, ?_, rfl, by omega, by omega, by omega, split_len sep _ l, ⟨fun _ => ⟨w.heap.size, 0, rfl, fun t x hx => ?_⟩⟩, (Below.refl _ _).alloc (Nat.le_refl _) _⟩
  · rw [hll]
  · rw [cell_of_row _ _ _ _ _ _ (heap_alloc_new w _)]
    rw [← hdat, List.getElem?_map] at hx
    rw [Nat.zero_add]
    cases hB : (Lib.splitB (str sep) 0 (Lib.countB (str l) (str sep)) (str l))[t]? with
    | none => rw [hB] at hx; cases hx
    | some B =>
      rw [hB] at hx
      simp only [Option.map_some, Option.some.injEq] at hx
      rw [List.getElem?_toArray, List.getElem?_map, hB]
      simp only [Option.map_some]
      rw [str_eq B x hx.symm]
#print axioms split_gen
def h11 : List UInt8 := [72, 84, 84, 80, 47, 49, 46, 49]
/-- What a request's first line says. -/
def rfM (l : List UInt8) : List UInt8 × List UInt8 × Nat :=
  match Lib.split l [32] with
  | [a, b, c] => if mthB a && (tgtB b && verB c) then (if c = h11 then (if knwB a then (if b.length ≤ 1024 then (a, b, 0) else ([], [], 414)) else ([], [], 501)) else ([], [], 505)) else ([], [], 400)
  | _ => ([], [], 400)
set_option maxHeartbeats 4000000 in
theorem readFirst_any (l : List UInt8) (w : World) (hl : l.length ≤ 1000000) (hm : Mx w) :
    Calls Tryz.prog 29 #[.string (str l)] w fun e w' => e = .returned (.tuple #[.string (str (rfM l).1), .string (str (rfM l).2.1), .int .i64 ((rfM l).2.2 : Int)]) ∧ Hid (Below w.heap.size w w') := by
  have HSP := hide (split_gen l [32] w hl hm (by decide))
  have HM : Hid (rfM l = match Lib.split l [32] with
    | [a, b, c] => if mthB a && (tgtB b && verB c) then (if c = h11 then (if knwB a then (if b.length ≤ 1024 then (a, b, 0) else ([], [], 414)) else ([], [], 501)) else ([], [], 505)) else ([], [], 400)
    | _ => ([], [], 400)) := rfl
  generalize rfM l = T at HM ⊢
  go_enter Tryz.func29, Tryz.ntmps29
  go_upto_region 2 with (go_at_call 27; refine (unhide HSP).mono ?_; rintro e w1 ⟨b, c, L, rfl, HL, hLc, hL1, hL2, HX, HN, HB⟩)
  rw [← unhide HL] at HM
  by_cases h3 : L.length = 3
  · obtain ⟨x, y, z, hxyz⟩ : ∃ x y z, L = [x, y, z] := by
      match L, h3 with
      | [x, y, z], _ => exact ⟨x, y, z, rfl⟩
    subst hxyz
    obtain ⟨b', off, he, hc⟩ := (unhide HN).mem (by simp)
    simp only [Option.some.injEq, Addr.mk.injEq, and_true] at he
    obtain ⟨rfl, rfl⟩ := he
    have c0 : w1.cell? ⟨b, 0, none⟩ = some (.string (str x)) := hc 0 x rfl
    have c1 : w1.cell? ⟨b, 1, none⟩ = some (.string (str y)) := hc 1 y rfl
    have c2 : w1.cell? ⟨b, 2, none⟩ = some (.string (str z)) := hc 2 z rfl
    have lx : x.length ≤ 1000000 := Nat.le_trans (unhide HX x (by simp)) hl
    have ly : y.length ≤ 1000000 := Nat.le_trans (unhide HX y (by simp)) hl
    have lz : z.length ≤ 1000000 := Nat.le_trans (unhide HX z (by simp)) hl
    have HC1 := hide (isMethod_any x w1 lx)
    have HC2 := hide (isTarget_any y w1 ly)
    have HC3 := hide (isVersion_any z w1 lz)
    have HC4 := hide (isKnown_any x w1)
    have hyz : (str y).size = y.length := str_size y
    simp only [List.length_cons, List.length_nil] at hLc hL1 hL2 ⊢
    have HM2 : Hid (T = if mthB x && (tgtB y && verB z) then (if z = h11 then (if knwB x then (if y.length ≤ 1024 then (x, y, 0) else ([], [], 414)) else ([], [], 501)) else ([], [], 505)) else ([], [], 400)) := unhide HM
    clear HM HSP HL HX HN hc h3
    generalize mthB x = m1 at HC1 HM2
    generalize tgtB y = m2 at HC2 HM2
    generalize verB z = m3 at HC3 HM2
    generalize knwB x = m4 at HC4 HM2
    cases m1 with
    | false =>
      have HR : Hid (T = ([], [], 400)) := by show _ = _; rw [unhide HM2]; simp [*]
      clear HM2
      go_wp2_with (first | (go_at_call 40; refine (unhide HC1).mono ?_; rintro e w2 ⟨rfl, hw2⟩; obtain rfl := hw2))
      go_ret3
      exact ⟨by rw [unhide HR]; rfl, HB⟩
    | true =>
    cases m2 with
    | false =>
      have HR : Hid (T = ([], [], 400)) := by show _ = _; rw [unhide HM2]; simp [*]
      clear HM2
      go_wp2_with (first | (go_at_call 40; refine (unhide HC1).mono ?_; rintro e w2 ⟨rfl, hw2⟩; obtain rfl := hw2) | (go_at_call 41; refine (unhide HC2).mono ?_; rintro e w2 ⟨rfl, hw2⟩; obtain rfl := hw2))
      go_ret3
      exact ⟨by rw [unhide HR]; rfl, HB⟩
    | true =>
    cases m3 with
    | false =>
      have HR : Hid (T = ([], [], 400)) := by show _ = _; rw [unhide HM2]; simp [*]
      clear HM2
      go_wp2_with (first | (go_at_call 40; refine (unhide HC1).mono ?_; rintro e w2 ⟨rfl, hw2⟩; obtain rfl := hw2) | (go_at_call 41; refine (unhide HC2).mono ?_; rintro e w2 ⟨rfl, hw2⟩; obtain rfl := hw2) | (go_at_call 42; refine (unhide HC3).mono ?_; rintro e w2 ⟨rfl, hw2⟩; obtain rfl := hw2))
      go_ret3
      exact ⟨by rw [unhide HR]; rfl, HB⟩
    | true =>
    by_cases hz : ¬ z = h11
    · have pz : ((str z).toList == [72, 84, 84, 80, 47, 49, 46, 49]) = false := by rw [toList_str, beq_eq_false_iff_ne]; exact hz
      have pz' : ((str z).toList != [72, 84, 84, 80, 47, 49, 46, 49]) = true := by show (!_) = _; rw [pz]; rfl
      have HR : Hid (T = ([], [], 505)) := by show _ = _; rw [unhide HM2]; simp [*]
      clear HM2 hz
      go_wp2_with (first | (go_at_call 40; refine (unhide HC1).mono ?_; rintro e w2 ⟨rfl, hw2⟩; obtain rfl := hw2) | (go_at_call 41; refine (unhide HC2).mono ?_; rintro e w2 ⟨rfl, hw2⟩; obtain rfl := hw2) | (go_at_call 42; refine (unhide HC3).mono ?_; rintro e w2 ⟨rfl, hw2⟩; obtain rfl := hw2))
      go_ret3
      exact ⟨by rw [unhide HR]; rfl, HB⟩
    have hz : z = h11 := Classical.not_not.1 hz
    have pz : (str z).toList = [72, 84, 84, 80, 47, 49, 46, 49] := by rw [toList_str]; exact hz
    cases m4 with
    | false =>
      have HR : Hid (T = ([], [], 501)) := by show _ = _; rw [unhide HM2]; simp [*]
      clear HM2 hz
      go_wp2_with (first | (go_at_call 40; refine (unhide HC1).mono ?_; rintro e w2 ⟨rfl, hw2⟩; obtain rfl := hw2) | (go_at_call 41; refine (unhide HC2).mono ?_; rintro e w2 ⟨rfl, hw2⟩; obtain rfl := hw2) | (go_at_call 42; refine (unhide HC3).mono ?_; rintro e w2 ⟨rfl, hw2⟩; obtain rfl := hw2) | (go_at_call 43; refine (unhide HC4).mono ?_; rintro e w2 ⟨rfl, hw2⟩; obtain rfl := hw2))
      go_ret3
      exact ⟨by rw [unhide HR]; rfl, HB⟩
    | true =>
    by_cases hy : ¬ y.length ≤ 1024
    · have hy' : (1024 : Int) < (y.length : Int) := by omega
      have HR : Hid (T = ([], [], 414)) := by show _ = _; rw [unhide HM2]; simp [*]
      clear HM2 hz hy
      go_wp2_with (first | (go_at_call 40; refine (unhide HC1).mono ?_; rintro e w2 ⟨rfl, hw2⟩; obtain rfl := hw2) | (go_at_call 41; refine (unhide HC2).mono ?_; rintro e w2 ⟨rfl, hw2⟩; obtain rfl := hw2) | (go_at_call 42; refine (unhide HC3).mono ?_; rintro e w2 ⟨rfl, hw2⟩; obtain rfl := hw2) | (go_at_call 43; refine (unhide HC4).mono ?_; rintro e w2 ⟨rfl, hw2⟩; obtain rfl := hw2))
      go_ret3
      exact ⟨by rw [unhide HR]; rfl, HB⟩
    · have hy' : ¬ (1024 : Int) < (y.length : Int) := by omega
      have hy := Classical.not_not.1 hy
      have HR : Hid (T = (x, y, 0)) := by show _ = _; rw [unhide HM2]; simp [hz, hy]
      clear HM2 hz hy
      go_wp2_with (first | (go_at_call 40; refine (unhide HC1).mono ?_; rintro e w2 ⟨rfl, hw2⟩; obtain rfl := hw2) | (go_at_call 41; refine (unhide HC2).mono ?_; rintro e w2 ⟨rfl, hw2⟩; obtain rfl := hw2) | (go_at_call 42; refine (unhide HC3).mono ?_; rintro e w2 ⟨rfl, hw2⟩; obtain rfl := hw2) | (go_at_call 43; refine (unhide HC4).mono ?_; rintro e w2 ⟨rfl, hw2⟩; obtain rfl := hw2))
      go_quiet (fail)
      go_wp2
      go_ret3
      exact ⟨by rw [unhide HR]; rfl, below_drewN (unhide HB) nq⟩
  · have h3' : ((L.length : Int) != 3) = true := by simp; omega
    have HR : Hid (T = ([], [], 400)) := by
      show _ = _
      rw [unhide HM]
      split
      · simp at h3
      · rfl
    clear h3 HM
    go_wp2
    go_ret3
    exact ⟨by rw [unhide HR]; rfl, HB⟩
#print axioms readFirst_any
end Go.Proofs.YthkadboeokgjnacGreatDoor
