/-
  httpd: strings.Split; readFirst.; httpd: rows of fields of one's own; readHeaders.; httpd: readHeaders, whatever the lines.; httpd: copies of headers and of bytes, of any length.
-/
import Derived.Test.YtonaekkenggmbaaGreatDoorPkHadsak
import Derived.Deep.QuietTactic
import Derived.BigQuiet
section
set_option linter.unusedVariables false
set_option maxRecDepth 1000000
namespace Go.Proofs.YtonaekkenggmbaaGreatDoor
open Go.RowKit

/-- internal/bytealg.MaxLen is a number. -/
def Mx (w : World) : Prop := ∃ m : Int, w.cell? ⟨1, 0, none⟩ = some (.int .i64 m)
theorem Mx.below {w w' : World} {B : Nat} (h : Mx w) (hb : Below B w w') (hB : w.heap.size ≤ B) : Mx w' := by
  obtain ⟨m, hm⟩ := h
  exact ⟨m, by rw [hb.cell (Nat.lt_of_lt_of_le (World.block_lt_of_cell? w _ hm) hB)]; exact hm⟩
/-- Texts that are read. -/
structure NsO (w : World) (p : Option Addr) (L : List (List UInt8)) : Prop where
  mem : L ≠ [] → ∃ b off, p = some ⟨b, off, none⟩ ∧ ∀ t h, L[t]? = some h → w.cell? ⟨b, off + t, none⟩ = some (.string (str h))
theorem NsO.below {w w' : World} {B : Nat} {p : Option Addr} {L : List (List UInt8)} (h : NsO w p L) (hb : Below B w w') (hB : w.heap.size ≤ B) : NsO w' p L := by
  refine ⟨fun hne => ?_⟩
  obtain ⟨b, off, e, hc⟩ := h.mem hne
  refine ⟨b, off, e, fun t x hx => ?_⟩
  rw [hb.cell (Nat.lt_of_lt_of_le (World.block_lt_of_cell? w _ (hc t x hx)) hB)]
  exact hc t x hx
theorem str_eq (B : ByteArray) (x : List UInt8) (h : x = B.data.toList) : B = str x := by subst h; cases B; simp [str]
theorem split_len (sep : List UInt8) : ∀ (k : Nat) (l : List UInt8), ∀ x ∈ Lib.splitK sep 0 k l, x.length ≤ l.length
  | 0, l, x, hx => by simp [Lib.splitK] at hx; simp [hx]
  | k + 1, l, x, hx => by
    unfold Lib.splitK at hx
    split at hx
    · simp at hx; simp [hx]
    · rcases List.mem_cons.1 hx with rfl | h
      · simp; omega
      · have := split_len sep k _ x h
        simp at this; omega
theorem info9s : (Tryz.prog.info? (Tryz.lays146_ren.t 9)).map (fun i => (i.zero, i.size, i.bytes)) = some (some (.string ByteArray.empty), 1, 16) := by kernel_rfl
theorem split_gen (l sep : List UInt8) (w : World) (hl : l.length ≤ 1000000) (hm : Mx w) (h1 : 1 ≤ sep.length) :
    Calls Tryz.prog 88 #[.string (str l), .string (str sep)] w fun e w' => ∃ b c L, e = .returned (.slice (some ⟨b, 0, none⟩) L.length c) ∧ Hid (L = Lib.split l sep) ∧ L.length ≤ c ∧ 1 ≤ L.length ∧ L.length ≤ 1000001 ∧ Hid (∀ x ∈ L, x.length ≤ l.length) ∧ Hid (NsO w' (some ⟨b, 0, none⟩) L) ∧ Hid (Below w.heap.size w w') := by
  obtain ⟨m, hm⟩ := hm
  have hz1 : (str sep).size = sep.length := str_size sep
  have hz2 : (str l).size = l.length := str_size l
  have h := Any.strings_Split (ρ := Tryz.lays146_ren) Tryz.lays146 info9s (str l) (str sep) m w (by omega) hm (by omega)
  refine h.mono ?_
  rintro e w' ⟨rfl, rfl⟩
  have hdat := Lib.splitB_data (str sep) 0 (Lib.countB (str l) (str sep)) (str l)
  have hsp : Lib.splitK (str sep).data.toList 0 (Lib.countB (str l) (str sep)) (str l).data.toList = Lib.split l sep := rfl
  rw [hsp] at hdat
  have hlen := Lib.splitB_all (str sep) (by omega) 0 _ (str l) rfl
  have hll : (Lib.split l sep).length = Lib.countB (str l) (str sep) + 1 := by rw [← hdat, List.length_map, hlen]
  have hcb := Lib.countB_le (str sep) (by omega) (str l).size (str l) (Nat.le_refl _)
  refine ⟨w.heap.size, Lib.countB (str l) (str sep) + 1, Lib.split l sep, ?_, rfl, by omega, by omega, by omega, split_len sep _ l, ⟨fun _ => ⟨w.heap.size, 0, rfl, fun t x hx => ?_⟩⟩, (Below.refl _ _).alloc (Nat.le_refl _) _⟩
  · rw [hll]
  · rw [cell_of_row _ _ _ _ _ _ (heap_alloc_new w _)]
    rw [← hdat, List.getElem?_map] at hx
    rw [Nat.zero_add]
    cases hB : (Lib.splitB (str sep) 0 (Lib.countB (str l) (str sep)) (str l))[t]? with
    | none => rw [hB] at hx; cases hx
    | some B =>
      rw [hB] at hx
      simp only [Option.map_some, Option.some.injEq] at hx
      rw [List.getElem?_toArray, List.getElem?_map, hB]
      simp only [Option.map_some]
      rw [str_eq B x hx.symm]
#print axioms split_gen
def h11 : List UInt8 := [72, 84, 84, 80, 47, 49, 46, 49]
/-- What a request's first line says. -/
def rfM (l : List UInt8) : List UInt8 × List UInt8 × Nat :=
  match Lib.split l [32] with
  | [a, b, c] => if mthB a && (tgtB b && verB c) then (if c = h11 then (if knwB a then (if b.length ≤ 1024 then (a, b, 0) else ([], [], 414)) else ([], [], 501)) else ([], [], 505)) else ([], [], 400)
  | _ => ([], [], 400)
set_option maxHeartbeats 4000000 in
theorem readFirst_any (l : List UInt8) (w : World) (hl : l.length ≤ 1000000) (hm : Mx w) :
    Calls Tryz.prog 142 #[.string (str l)] w fun e w' => e = .returned (.tuple #[.string (str (rfM l).1), .string (str (rfM l).2.1), .int .i64 ((rfM l).2.2 : Int)]) ∧ Hid (Below w.heap.size w w') := by
  have HSP := hide (split_gen l [32] w hl hm (by decide))
  have HM : Hid (rfM l = match Lib.split l [32] with
    | [a, b, c] => if mthB a && (tgtB b && verB c) then (if c = h11 then (if knwB a then (if b.length ≤ 1024 then (a, b, 0) else ([], [], 414)) else ([], [], 501)) else ([], [], 505)) else ([], [], 400)
    | _ => ([], [], 400)) := rfl
  generalize rfM l = T at HM ⊢
  go_enter Tryz.func142, Tryz.ntmps142
  go_upto_region 2 with (go_at_call 88; refine (unhide HSP).mono ?_; rintro e w1 ⟨b, c, L, rfl, HL, hLc, hL1, hL2, HX, HN, HB⟩)
  rw [← unhide HL] at HM
  by_cases h3 : L.length = 3
  · obtain ⟨x, y, z, hxyz⟩ : ∃ x y z, L = [x, y, z] := by
      match L, h3 with
      | [x, y, z], _ => exact ⟨x, y, z, rfl⟩
    subst hxyz
    obtain ⟨b', off, he, hc⟩ := (unhide HN).mem (by simp)
    simp only [Option.some.injEq, Addr.mk.injEq, and_true] at he
    obtain ⟨rfl, rfl⟩ := he
    have c0 : w1.cell? ⟨b, 0, none⟩ = some (.string (str x)) := hc 0 x rfl
    have c1 : w1.cell? ⟨b, 1, none⟩ = some (.string (str y)) := hc 1 y rfl
    have c2 : w1.cell? ⟨b, 2, none⟩ = some (.string (str z)) := hc 2 z rfl
    have lx : x.length ≤ 1000000 := Nat.le_trans (unhide HX x (by simp)) hl
    have ly : y.length ≤ 1000000 := Nat.le_trans (unhide HX y (by simp)) hl
    have lz : z.length ≤ 1000000 := Nat.le_trans (unhide HX z (by simp)) hl
    have HC1 := hide (isMethod_any x w1 lx)
    have HC2 := hide (isTarget_any y w1 ly)
    have HC3 := hide (isVersion_any z w1 lz)
    have HC4 := hide (isKnown_any x w1)
    have hyz : (str y).size = y.length := str_size y
    simp only [List.length_cons, List.length_nil] at hLc hL1 hL2 ⊢
    have HM2 : Hid (T = if mthB x && (tgtB y && verB z) then (if z = h11 then (if knwB x then (if y.length ≤ 1024 then (x, y, 0) else ([], [], 414)) else ([], [], 501)) else ([], [], 505)) else ([], [], 400)) := unhide HM
    clear HM HSP HL HX HN hc h3
    generalize mthB x = m1 at HC1 HM2
    generalize tgtB y = m2 at HC2 HM2
    generalize verB z = m3 at HC3 HM2
    generalize knwB x = m4 at HC4 HM2
    cases m1 with
    | false =>
      have HR : Hid (T = ([], [], 400)) := by show _ = _; rw [unhide HM2]; simp [*]
      clear HM2
      go_wp2_with (first | (go_at_call 165; refine (unhide HC1).mono ?_; rintro e w2 ⟨rfl, hw2⟩; obtain rfl := hw2))
      go_ret3
      exact ⟨by rw [unhide HR]; rfl, HB⟩
    | true =>
    cases m2 with
    | false =>
      have HR : Hid (T = ([], [], 400)) := by show _ = _; rw [unhide HM2]; simp [*]
      clear HM2
      go_wp2_with (first | (go_at_call 165; refine (unhide HC1).mono ?_; rintro e w2 ⟨rfl, hw2⟩; obtain rfl := hw2) | (go_at_call 166; refine (unhide HC2).mono ?_; rintro e w2 ⟨rfl, hw2⟩; obtain rfl := hw2))
      go_ret3
      exact ⟨by rw [unhide HR]; rfl, HB⟩
    | true =>
    cases m3 with
    | false =>
      have HR : Hid (T = ([], [], 400)) := by show _ = _; rw [unhide HM2]; simp [*]
      clear HM2
      go_wp2_with (first | (go_at_call 165; refine (unhide HC1).mono ?_; rintro e w2 ⟨rfl, hw2⟩; obtain rfl := hw2) | (go_at_call 166; refine (unhide HC2).mono ?_; rintro e w2 ⟨rfl, hw2⟩; obtain rfl := hw2) | (go_at_call 167; refine (unhide HC3).mono ?_; rintro e w2 ⟨rfl, hw2⟩; obtain rfl := hw2))
      go_ret3
      exact ⟨by rw [unhide HR]; rfl, HB⟩
    | true =>
    by_cases hz : ¬ z = h11
    · have pz : ((str z).toList == [72, 84, 84, 80, 47, 49, 46, 49]) = false := by rw [toList_str, beq_eq_false_iff_ne]; exact hz
      have pz' : ((str z).toList != [72, 84, 84, 80, 47, 49, 46, 49]) = true := by show (!_) = _; rw [pz]; rfl
      have HR : Hid (T = ([], [], 505)) := by show _ = _; rw [unhide HM2]; simp [*]
      clear HM2 hz
      go_wp2_with (first | (go_at_call 165; refine (unhide HC1).mono ?_; rintro e w2 ⟨rfl, hw2⟩; obtain rfl := hw2) | (go_at_call 166; refine (unhide HC2).mono ?_; rintro e w2 ⟨rfl, hw2⟩; obtain rfl := hw2) | (go_at_call 167; refine (unhide HC3).mono ?_; rintro e w2 ⟨rfl, hw2⟩; obtain rfl := hw2))
      go_ret3
      exact ⟨by rw [unhide HR]; rfl, HB⟩
    have hz : z = h11 := Classical.not_not.1 hz
    have pz : (str z).toList = [72, 84, 84, 80, 47, 49, 46, 49] := by rw [toList_str]; exact hz
    cases m4 with
    | false =>
      have HR : Hid (T = ([], [], 501)) := by show _ = _; rw [unhide HM2]; simp [*]
      clear HM2 hz
      go_wp2_with (first | (go_at_call 165; refine (unhide HC1).mono ?_; rintro e w2 ⟨rfl, hw2⟩; obtain rfl := hw2) | (go_at_call 166; refine (unhide HC2).mono ?_; rintro e w2 ⟨rfl, hw2⟩; obtain rfl := hw2) | (go_at_call 167; refine (unhide HC3).mono ?_; rintro e w2 ⟨rfl, hw2⟩; obtain rfl := hw2) | (go_at_call 168; refine (unhide HC4).mono ?_; rintro e w2 ⟨rfl, hw2⟩; obtain rfl := hw2))
      go_ret3
      exact ⟨by rw [unhide HR]; rfl, HB⟩
    | true =>
    by_cases hy : ¬ y.length ≤ 1024
    · have hy' : (1024 : Int) < (y.length : Int) := by omega
      have HR : Hid (T = ([], [], 414)) := by show _ = _; rw [unhide HM2]; simp [*]
      clear HM2 hz hy
      go_wp2_with (first | (go_at_call 165; refine (unhide HC1).mono ?_; rintro e w2 ⟨rfl, hw2⟩; obtain rfl := hw2) | (go_at_call 166; refine (unhide HC2).mono ?_; rintro e w2 ⟨rfl, hw2⟩; obtain rfl := hw2) | (go_at_call 167; refine (unhide HC3).mono ?_; rintro e w2 ⟨rfl, hw2⟩; obtain rfl := hw2) | (go_at_call 168; refine (unhide HC4).mono ?_; rintro e w2 ⟨rfl, hw2⟩; obtain rfl := hw2))
      go_ret3
      exact ⟨by rw [unhide HR]; rfl, HB⟩
    · have hy' : ¬ (1024 : Int) < (y.length : Int) := by omega
      have hy := Classical.not_not.1 hy
      have HR : Hid (T = (x, y, 0)) := by show _ = _; rw [unhide HM2]; simp [hz, hy]
      clear HM2 hz hy
      go_wp2_with (first | (go_at_call 165; refine (unhide HC1).mono ?_; rintro e w2 ⟨rfl, hw2⟩; obtain rfl := hw2) | (go_at_call 166; refine (unhide HC2).mono ?_; rintro e w2 ⟨rfl, hw2⟩; obtain rfl := hw2) | (go_at_call 167; refine (unhide HC3).mono ?_; rintro e w2 ⟨rfl, hw2⟩; obtain rfl := hw2) | (go_at_call 168; refine (unhide HC4).mono ?_; rintro e w2 ⟨rfl, hw2⟩; obtain rfl := hw2))
      go_quiet (fail)
      go_wp2
      go_ret3
      exact ⟨by rw [unhide HR]; rfl, below_drewN (unhide HB) nq⟩
  · have h3' : ((L.length : Int) != 3) = true := by simp; omega
    have HR : Hid (T = ([], [], 400)) := by
      show _ = _
      rw [unhide HM]
      split
      · simp at h3
      · rfl
    clear h3 HM
    go_wp2
    go_ret3
    exact ⟨by rw [unhide HR]; rfl, HB⟩
#print axioms readFirst_any
end Go.Proofs.YtonaekkenggmbaaGreatDoor
end
section
set_option linter.unusedVariables false
set_option maxRecDepth 1000000
namespace Go.Proofs.YtonaekkenggmbaaGreatDoor
open Go.RowKit

def hcC (t : Hd) : List Value := [.string (str t.1), .string (str t.2)]
def hcs (l : List Hd) : List Value := l.flatMap hcC
theorem hcs_length (l : List Hd) : (hcs l).length = l.length * 2 := by
  induction l with
  | nil => rfl
  | cons t r ih => simp [hcs, hcC] at ih ⊢; omega
theorem hcs_append (l r : List Hd) : hcs (l ++ r) = hcs l ++ hcs r := by simp [hcs]
theorem hcs_one (l : List Hd) : ∀ u ∈ hcs l, u.oneCell' = true := by
  intro u hu
  obtain ⟨t, _, ht⟩ := List.mem_flatMap.1 hu
  simp [hcC] at ht
  rcases ht with rfl | rfl <;> rfl
theorem hcs_get : ∀ (l : List Hd) (i j : Nat) (t : Hd), l[i]? = some t → j < 2 → (hcs l)[i * 2 + j]? = (hcC t)[j]?
  | [], i, j, t, h, _ => by simp at h
  | u :: r, 0, j, t, h, hj => by
    simp at h
    subst h
    show (hcC u ++ hcs r)[0 * 2 + j]? = _
    rw [List.getElem?_append_left (by simp [hcC]; omega)]
    simp
  | u :: r, i + 1, j, t, h, hj => by
    show (hcC u ++ hcs r)[(i + 1) * 2 + j]? = _
    have e : (i + 1) * 2 + j = (hcC u).length + (i * 2 + j) := by simp [hcC]; omega
    rw [e, List.getElem?_append_right (by omega), Nat.add_sub_cancel_left]
    exact hcs_get r i j t (by simpa using h) hj
def OwnH (w : World) (base : Nat) (a : Option Addr) (cap : Nat) (l : List Hd) : Prop := w.ownsRow base 49 2 (.slice a l.length cap) l.length (hcs l)
theorem OwnH.cases {w : World} {base : Nat} {a : Option Addr} {cap : Nat} {l : List Hd} (h : OwnH w base a cap l) :
    (a = none ∧ cap = 0 ∧ l = []) ∨ ∃ g cur, a = some ⟨g, 0, none⟩ ∧ base ≤ g ∧ w.heap[g]? = some (.cells cur 49 (0, 0)) ∧ l.length ≤ cap ∧ cap ≤ maxLen ∧ cur.size = cap * 2 ∧ cur.toList.take (l.length * 2) = hcs l := by
  rcases h.2 with ⟨hv, hn⟩ | ⟨g, cap', cur, hv, hb, hg, hle, hm, hs, ht⟩
  · simp only [Value.slice.injEq] at hv
    exact .inl ⟨hv.1, hv.2.2, List.eq_nil_of_length_eq_zero hn⟩
  · simp only [Value.slice.injEq, true_and] at hv
    obtain ⟨rfl, rfl⟩ := hv
    exact .inr ⟨g, cur, rfl, hb, hg, hle, hm, hs, ht⟩
theorem OwnH.nil (w : World) (base : Nat) : OwnH w base none 0 [] := World.ownsRow_nil w base _ _
theorem OwnH.lt {w : World} {base : Nat} {a : Option Addr} {cap : Nat} {l : List Hd} (h : OwnH w base a cap l) : ∀ k, blk a = some k → base ≤ k ∧ k < w.heap.size := by
  intro k hk
  rcases h.cases with ⟨rfl, rfl, rfl⟩ | ⟨g, cur, rfl, hb, hg, _⟩
  · simp [blk] at hk
  · simp [blk] at hk
    subst hk
    exact ⟨hb, (Array.getElem?_eq_some_iff.1 hg).1⟩
theorem OwnH.below {w w' : World} {base B : Nat} {a : Option Addr} {cap : Nat} {l : List Hd} (h : OwnH w base a cap l) (hb : Below B w w') (hB : w.heap.size ≤ B) : OwnH w' base a cap l := by
  refine ⟨h.1, ?_⟩
  rcases h.2 with hn | ⟨g, cap, cur, hv, hbb, hgg, rest⟩
  · exact .inl hn
  · refine .inr ⟨g, cap, cur, hv, hbb, ?_, rest⟩
    rw [hb.block g (by have := (Array.getElem?_eq_some_iff.1 hgg).1; omega)]
    exact hgg
theorem OwnH.hdR {w : World} {base : Nat} {a : Option Addr} {cap : Nat} {l : List Hd} (h : OwnH w base a cap l) : HdR w a l := by
  rcases h.cases with ⟨rfl, rfl, rfl⟩ | ⟨g, cur, rfl, hb, hg, hle, hm, hs, ht⟩
  · exact ⟨fun hne => absurd rfl hne, by simp⟩
  · refine ⟨fun hne => ⟨g, 0, rfl, fun i s hs' => ?_⟩, by omega⟩
    have hlt := (List.getElem?_eq_some_iff.1 hs').1
    have key : ∀ j, j < 2 → w.cell? ⟨g, i * 2 + j, none⟩ = (hcC s)[j]? := by
      intro j hj
      rw [cell_of_row w g (i * 2 + j) cur _ (0, 0) hg, ← hcs_get l i j s hs' hj, ← ht, List.getElem?_take, if_pos (by omega)]
      simp
    have k0 := key 0 (by omega)
    have k1 := key 1 (by omega)
    exact ⟨by rw [Nat.zero_add]; exact k0, by rw [Nat.zero_add]; exact k1⟩
theorem Tryz.infoHd : (Tryz.prog.info? 49).map (fun i => (i.zero, i.size, i.bytes)) = some (some (.agg #[.string ByteArray.empty, .string ByteArray.empty]), 2, 32) := by kernel_rfl
/-- append(s, h), s the call's own. -/
theorem wp_apph (w : World) {ops : Array Oper} {rest : List Oper} {o : Oper} {a : Act} {Q : Exit → Act → World → Prop} (hgd : o.guard = none) (s x : Operand)
    (ho : o.op = .call { callee := .builtin .append, args := #[s, x], argTypes := #[37, 37] })
    (base : Nat) (a1 : Option Addr) (cap1 : Nat) (l1 : List Hd) (hs : a.eval s = .slice a1 l1.length cap1) (hown : OwnH w base a1 cap1 l1)
    (b cap2 : Nat) (n : Hd) (hx : a.eval x = .slice (some ⟨b, 0, none⟩) 1 cap2) (hs0 : w.cell? ⟨b, 0, none⟩ = some (.string (str n.1))) (hs1 : w.cell? ⟨b, 1, none⟩ = some (.string (str n.2)))
    (hlen : l1.length ≤ 100000000) (hbase : base ≤ w.heap.size)
    (h : ∀ a' cap' r w', Hid (r = l1 ++ [n]) → OwnH w' base a' cap' r → w.grownBy w' (blk a1) → wpList Tryz.prog ops Q rest (a.put o.dst (.slice a' r.length cap')) w') : wpList Tryz.prog ops Q (o :: rest) a w := by
  obtain ⟨i, hi, hz0, hz1, hz2⟩ := info_parts Tryz.infoHd
  have hblk : (Value.slice a1 l1.length cap1).ownBlock = blk a1 := by cases a1 <;> rfl
  refine wpList_append_own w hgd s x 37 ho base 49 i (.agg #[.string ByteArray.empty, .string ByteArray.empty]) 2 32 Tryz.underlying37 hi hz0 hz1 hz2 rfl (by decide) _ _ _ hs hown ⟨b, 0, none⟩ 1 cap2 (hcs [n]) hx (by simp [hcs_length]) ?_ (hcs_one [n]) (by unfold maxLen; omega) (by omega) hbase ?_
  · intro j u hu
    have hj : j < 2 := by
      have := (List.getElem?_eq_some_iff.1 hu).1
      simpa [hcs_length] using this
    have e := hcs_get [n] 0 j n rfl hj
    rw [Nat.zero_mul, Nat.zero_add] at e
    rw [e] at hu
    rw [addr_add]
    match j, hj with
    | 0, _ => cases hu; exact hs0
    | 1, _ => cases hu; exact hs1
  · intro v' w' h1 h2 _
    have e1 : l1.length + 1 = (l1 ++ [n]).length := by simp
    have e2 : hcs l1 ++ hcs [n] = hcs (l1 ++ [n]) := (hcs_append l1 [n]).symm
    rw [e1, e2] at h1
    have hv : ∃ a' cap', v' = .slice a' (l1 ++ [n]).length cap' := by
      rcases h1.2 with ⟨hv, hn⟩ | ⟨g, cap, cur, hv, _⟩
      · exact ⟨none, 0, by rw [hv, hn]⟩
      · exact ⟨_, _, hv⟩
    obtain ⟨a', cap', rfl⟩ := hv
    rw [hblk] at h2
    exact h a' cap' (l1 ++ [n]) w' rfl h1 h2
#print axioms wp_apph

def trm (l : List UInt8) : List UInt8 := Lib.trimS l [32, 9]
theorem trm_len (l : List UInt8) : (trm l).length ≤ l.length := by
  unfold trm Lib.trimS Lib.trimLeftS Lib.trimRightS
  refine Nat.le_trans (List.dropWhile_sublist _).length_le ?_
  rw [List.length_reverse]
  refine Nat.le_trans (List.dropWhile_sublist _).length_le ?_
  rw [List.length_reverse]
  exact Nat.le_refl _
theorem info116t : (Tryz.prog.info? (Tryz.lays160_ren.t 116)).map (fun i => (i.zero, i.size)) = some (some (.agg (Array.replicate 256 (.bool false))), 256) := by kernel_rfl
set_option maxHeartbeats 1000000 in
theorem trim_any (l : List UInt8) (w : World) (hl : l.length ≤ 1000000) :
    Calls Tryz.prog 169 #[.string (str l), .string ⟨#[32, 9]⟩] w fun e w' => e = .returned (.string (str (trm l))) ∧ Below w.heap.size w w' := by
  have hsz : (str l).size = l.length := str_size l
  by_cases h0 : l = []
  · subst h0
    have he : ((str []).toList == []) = true := by rw [toList_str]; rfl
    go_enter Tryz.func169, Tryz.ntmps169
    go_wp2
    go_ret
    exact ⟨rfl, Below.refl _ _⟩
  · have hpos := List.length_pos_iff.2 h0
    have hz := zero_of_info info116t
    have := Any.strings_Trim_set (ρ := Tryz.lays160_ren) Tryz.lays160 hz.1 hz.2 (str l) ⟨#[32, 9]⟩ w (by decide) (by omega) (by omega) (by decide) (by
      intro j b hj
      match j, hj with
      | 0, hj => simp at hj; subst hj; decide
      | 1, hj => simp at hj; subst hj; decide
      | j + 2, hj => simp at hj)
    refine Calls.mono this ?_
    rintro e w' ⟨rfl, q, rfl⟩
    refine ⟨rfl, ?_⟩
    exact below_drewN (((Below.refl _ _).alloc (Nat.le_refl _) _).alloc (by simp) _) q
theorem cut_len (l s : List UInt8) : (Lib.cut l s).1.length ≤ l.length ∧ (Lib.cut l s).2.1.length ≤ l.length := by
  unfold Lib.cut
  split <;> simp <;> omega
theorem cut58 (l : List UInt8) (w : World) (hl : l.length ≤ 1000000) (hm : Mx w) :
    Calls Tryz.prog 110 #[.string (str l), .string ⟨#[58]⟩] w fun e w' => e = .returned (.tuple #[.string (str (Lib.cut l [58]).1), .string (str (Lib.cut l [58]).2.1), .bool (Lib.cut l [58]).2.2]) ∧ Hid (Below w.heap.size w w') := by
  obtain ⟨m, hm⟩ := hm
  have hz2 : (str l).size = l.length := str_size l
  have h := Any.strings_Cut (ρ := Tryz.lays145_ren) Tryz.lays145 (str l) ⟨#[58]⟩ m w (by omega) hm
  refine h.mono ?_
  rintro e w' ⟨rfl, n, rfl⟩
  exact ⟨rfl, below_drewN (Below.refl _ _) n⟩
#print axioms cut58
/-- One line's field; none: it is none. -/
def fldM (l : List UInt8) : Option Hd := if (Lib.cut l [58]).2.2 && (tknB (Lib.cut l [58]).1 && vluB (trm (Lib.cut l [58]).2.1)) then some (sm (Lib.cut l [58]).1, trm (Lib.cut l [58]).2.1) else none
/-- What the lines behind the first one say. -/
def rhM : List (List UInt8) → List Hd → List Hd × Nat
  | [], acc => (acc, 0)
  | l :: L, acc => if acc.length = 32 then ([], 431) else match fldM l with | some h => rhM L (acc ++ [h]) | none => ([], 400)
end Go.Proofs.YtonaekkenggmbaaGreatDoor
end
section
set_option linter.unusedVariables false
set_option maxRecDepth 1000000
namespace Go.Proofs.YtonaekkenggmbaaGreatDoor
open Go.RowKit

theorem rhM_step (L : List (List UInt8)) (k : Nat) (x : List UInt8) (acc : List Hd) (h : L[k]? = some x) : rhM (L.drop k) acc = if acc.length = 32 then ([], 431) else match fldM x with | some h => rhM (L.drop (k + 1)) (acc ++ [h]) | none => ([], 400) := by
  have hlt := (List.getElem?_eq_some_iff.1 h).1
  have hx : L[k] = x := by rw [List.getElem?_eq_getElem hlt] at h; exact Option.some.inj h
  rw [List.drop_eq_getElem_cons hlt, hx]
  rfl
set_option maxHeartbeats 8000000 in
theorem readHeaders_any (p : Option Addr) (cp : Nat) (L : List (List UInt8)) (w : World) (h : NsO w p L) (hx : ∀ x ∈ L, x.length ≤ 1000000) (hl : L.length ≤ 1000001) (hm : Mx w) :
    Calls Tryz.prog 143 #[.slice p L.length cp] w fun e w' => ∃ a c, e = .returned (.tuple #[.slice a (rhM L []).1.length c, .int .i64 ((rhM L []).2 : Int)]) ∧ Hid (OwnH w' w.heap.size a c (rhM L []).1) ∧ Hid (Below w.heap.size w w') := by
  have HH := hide h
  have HX := hide hx
  have HM := hide hm
  obtain ⟨T, hT⟩ : ∃ T, rhM L [] = T := ⟨_, rfl⟩
  have HT0 : Hid (T = rhM (L.drop 0) []) := by show _ = _; rw [← hT]; rfl
  rw [hT]
  clear h hx hm hT
  go_enter Tryz.func143, Tryz.ntmps143
  go_wp2
  go_loopw [4, 12] (fun v i wr => ∃ k : Nat, k ≤ L.length ∧ i = .int .i64 (k : Int) ∧ ∃ (a : Option Addr) (c : Nat) (acc : List Hd), v = .slice a acc.length c ∧ acc.length ≤ 32 ∧ Hid (T = rhM (L.drop k) acc) ∧ Hid (OwnH wr w.heap.size a c acc) ∧ Hid (Below w.heap.size w wr)) (fun _ i _ => L.length - (intOf i).toNat)
  case atStart => exact ⟨0, Nat.zero_le _, rfl, none, 0, [], rfl, by decide, HT0, OwnH.nil _ _, Below.refl _ _⟩
  case round =>
    clear HT0
    obtain ⟨k, hk, rfl, a, c, acc, rfl, hacc, HT, HO, HB⟩ := hrel
    by_cases hlt : k < L.length
    · have hlt' : (k : Int) < (L.length : Int) := by omega
      obtain ⟨x, hx⟩ : ∃ x, L[k]? = some x := ⟨_, List.getElem?_eq_getElem hlt⟩
      obtain ⟨b, off, hpe, hc⟩ := ((unhide HH).below (unhide HB) (Nat.le_refl _)).mem (by intro e; subst e; simp at hx)
      subst hpe
      have c0 := hc k x hx
      have hxl : x.length ≤ 1000000 := unhide HX x (List.mem_of_getElem? hx)
      have HST := hide (rhM_step L k x acc hx)
      clear hc hx
      by_cases h32 : acc.length = 32
      · have h32' : ((acc.length : Int) == 32) = true := by rw [h32]; rfl
        have HR : Hid (T = ([], 431)) := by show _ = _; rw [unhide HT, unhide HST, if_pos h32]
        clear h32 HT HST
        go_wp2
        go_ret2
        exact ⟨none, 0, by rw [unhide HR]; rfl, by rw [unhide HR]; exact OwnH.nil _ _, HB⟩
      · have h32' : ((acc.length : Int) == 32) = false := by rw [beq_eq_false_iff_ne]; omega
        have HT2 : Hid (T = match fldM x with | some h => rhM (L.drop (k + 1)) (acc ++ [h]) | none => ([], 400)) := by show _ = _; rw [unhide HT, unhide HST, if_neg h32]
        have hMr : Mx wr := (unhide HM).below (unhide HB) (Nat.le_refl _)
        have HC1 := hide (cut58 x wr hxl hMr)
        obtain ⟨cl1, cl2⟩ := cut_len x [58]
        have HF : Hid (fldM x = if (Lib.cut x [58]).2.2 && (tknB (Lib.cut x [58]).1 && vluB (trm (Lib.cut x [58]).2.1)) then some (sm (Lib.cut x [58]).1, trm (Lib.cut x [58]).2.1) else none) := rfl
        generalize Lib.cut x [58] = C at HC1 HF cl1 cl2
        obtain ⟨n1, v1, ok⟩ := C
        simp only at HC1 HF cl1 cl2
        have hn1 : n1.length ≤ 1000000 := by omega
        have hv1 : v1.length ≤ 1000000 := by omega
        have hv2 : (trm v1).length ≤ 1000000 := Nat.le_trans (trm_len v1) hv1
        have hac : acc.length < 32 := by omega
        clear h32 HT HST hMr cl1 cl2
        go_upto_region 9 with (first
          | (go_at_call 110; refine (unhide HC1).mono ?_; rintro e w1 ⟨rfl, HB1⟩)
          | (go_at_call 169; refine (trim_any v1 w1 hv1).mono ?_; rintro e w2 ⟨rfl, hb2⟩))
        have HB2 : Hid (Below wr.heap.size wr w2) := (unhide HB1).trans (hb2.mono (unhide HB1).size)
        have HBW : Hid (Below w.heap.size w w2) := (unhide HB).trans ((unhide HB2).mono (unhide HB).size)
        have HO2 := hide ((unhide HO).below (unhide HB2) (Nat.le_refl _))
        have HK1 := hide (isToken_any n1 w2 hn1)
        have HK2 := hide (isValue_any (trm v1) w2 hv2)
        clear hb2 HB1 HC1 c0
        generalize trm v1 = v2 at *
        generalize htk : tknB n1 = t1 at HK1 HF
        generalize hvl : vluB v2 = t2 at HK2 HF
        clear htk hvl
        cases ok with
        | false =>
          have HR : Hid (T = ([], 400)) := by show _ = _; rw [unhide HT2, unhide HF]; rfl
          clear HT2 HF
          go_wp2
          go_ret2
          exact ⟨none, 0, by rw [unhide HR]; rfl, by rw [unhide HR]; exact OwnH.nil _ _, HBW⟩
        | true =>
        cases t1 with
        | false =>
          have HR : Hid (T = ([], 400)) := by show _ = _; rw [unhide HT2, unhide HF]; rfl
          clear HT2 HF
          go_wp2_with (go_at_call 83; refine (unhide HK1).mono ?_; rintro e w3 ⟨rfl, hw3⟩; obtain rfl := hw3)
          go_ret2
          exact ⟨none, 0, by rw [unhide HR]; rfl, by rw [unhide HR]; exact OwnH.nil _ _, HBW⟩
        | true =>
        cases t2 with
        | false =>
          have HR : Hid (T = ([], 400)) := by show _ = _; rw [unhide HT2, unhide HF]; rfl
          clear HT2 HF
          go_wp2_with (first | (go_at_call 83; refine (unhide HK1).mono ?_; rintro e w3 ⟨rfl, hw3⟩; obtain rfl := hw3) | (go_at_call 84; refine (unhide HK2).mono ?_; rintro e w3 ⟨rfl, hw3⟩; obtain rfl := hw3))
          go_ret2
          exact ⟨none, 0, by rw [unhide HR]; rfl, by rw [unhide HR]; exact OwnH.nil _ _, HBW⟩
        | true =>
          have HR : Hid (T = rhM (L.drop (k + 1)) (acc ++ [(sm n1, v2)])) := by show _ = _; rw [unhide HT2, unhide HF]; rfl
          clear HT2 HF
          go_upto_region 11 with (first | (go_at_call 83; refine (unhide HK1).mono ?_; rintro e w3 ⟨rfl, hw3⟩; obtain rfl := hw3) | (go_at_call 84; refine (unhide HK2).mono ?_; rintro e w3 ⟨rfl, hw3⟩; obtain rfl := hw3))
          go_wp2_with fail
          refine (small_any n1 w3 hn1).mono ?_
          rintro e w4 ⟨rfl, hb4⟩
          have HB4 : Hid (Below w.heap.size w w4) := (unhide HBW).trans (hb4.mono (unhide HBW).size)
          have HO4 := hide ((unhide HO2).below hb4 (Nat.le_refl _))
          obtain ⟨V, hV⟩ : ∃ V, V = w4.alloc (.cells #[.string (str (sm n1)), .string (str v2)] 49) := ⟨_, rfl⟩
          have hrV : V.heap[w4.heap.size]? = some (.cells #[.string (str (sm n1)), .string (str v2)] 49 (0, 0)) := by rw [hV]; exact heap_alloc_new w4 _
          have hbV : Below w4.heap.size w4 V := by rw [hV]; exact (Below.refl _ _).alloc (Nat.le_refl _) _
          have HOV := hide ((unhide HO4).below hbV (Nat.le_refl _))
          have HBV : Hid (Below w.heap.size w V) := (unhide HB4).trans (hbV.mono (unhide HB4).size)
          have HV0 : Hid (V.cell? ⟨w4.heap.size, 0, none⟩ = some (.string (str (sm n1)))) := by show _ = _; rw [cell_of_row V _ 0 _ _ _ hrV]; rfl
          have HV1 : Hid (V.cell? ⟨w4.heap.size, 1, none⟩ = some (.string (str v2))) := by show _ = _; rw [cell_of_row V _ 1 _ _ _ hrV]; rfl
          clear hrV hbV hb4
          go_upto_region 12 with (rw [← hV]; refine wp_apph _ rfl _ _ rfl w.heap.size a c acc rfl (unhide HOV) w4.heap.size 1 (sm n1, v2) rfl (unhide HV0) (unhide HV1) (by omega) (unhide HBV).size ?_; intro a' c' acc' w5 hr5 ho5 hg5; have HO5 := hide ho5; have HG5 := hide hg5; clear ho5 hg5)
          have hal : acc'.length = acc.length + 1 := by rw [unhide hr5]; simp
          have HB5 : Hid (Below w.heap.size w w5) := (unhide HBV).grown (unhide HG5) (unhide HBV).size (fun j hj => ((unhide HOV).lt j hj).1)
          have HAL := hide hal
          clear hal hV
          go_wp2
          go_roundw
          case rel => exact ⟨k + 1, by omega, by go_num, a', c', acc', rfl, by have := unhide HAL; omega, by show _ = _; rw [unhide hr5]; exact unhide HR, HO5, HB5⟩
          case measure => simp [intOf]; omega
    · obtain rfl : k = L.length := by omega
      have hlt' : ¬ (L.length : Int) < (L.length : Int) := by omega
      have HR : Hid (T = (acc, 0)) := by show _ = _; rw [unhide HT, List.drop_length]; rfl
      clear hlt HT
      go_wp2
      go_ret2
      exact ⟨a, c, by rw [unhide HR]; rfl, by rw [unhide HR]; exact HO, HB⟩
#print axioms readHeaders_any
end Go.Proofs.YtonaekkenggmbaaGreatDoor
end
section
set_option linter.unusedVariables false
set_option maxRecDepth 1000000
namespace Go.Proofs.YtonaekkenggmbaaGreatDoor
open Go.RowKit

set_option maxHeartbeats 400000 in
theorem sclone_all8 (a : Option Addr) (n cap : Nat) (l : List UInt8) (w : World) (hr : Bs w a cap l) (hn : n = l.length) (hl : l.length ≤ 140737488355328) :
    Calls Tryz.prog 12 #[.slice a n cap] w fun e w' => ∃ a' cap' r, e = .returned (.slice a' r.length cap') ∧ Hid (r = l) ∧ OwnB w' w.heap.size a' cap' r ∧ Below w.heap.size w w' := by
  have hq := fun (wx : World) (a : Option Addr) (n c : Nat) => Lib.run_eql_slice_nil (P := Tryz.prog) wx 28 5 a n c 0 0 Tryz.underlying28
  cases a with
  | none =>
    have hl0 : l = [] := by
      apply Classical.byContradiction
      intro hne
      obtain ⟨b, off, hh, _⟩ := hr.row hne
      cases hh
    subst hl0
    go_enter Tryz.func12, Tryz.ntmps12
    go_wp2
    go_ret
    exact ⟨none, 0, [], rfl, rfl, OwnB.nil _ _, Below.refl _ _⟩
  | some ad =>
    subst hn
    go_enter Tryz.func12, Tryz.ntmps12
    go_wp2_with (at_builtin; refine wp_app _ rfl _ _ rfl w.heap.size (some ⟨w.heap.size, 0, none⟩) 0 [] rfl (own_empty w _ (Nat.le_refl _)) (some ad) cap l _ rfl rfl (hr.row.alloc _) (fun h => by cases h) ?c3 ?c4 ?_)
    case c3 => simp; omega
    case c4 => simp
    intro a2 cap2 r2 w2 hr2 ho2 hg2
    have hb2 : Below w.heap.size w w2 := below_grown (a := some ⟨w.heap.size, 0, none⟩) ((Below.refl _ _).alloc (Nat.le_refl _) _) hg2 (Nat.le_refl _) (fun k hk => by simp [blk] at hk; omega)
    have HR : Hid (r2 = l) := by
      show _ = _
      rw [hr2.out]
    clear hr2 hg2
    go_wp2
    go_ret
    exact ⟨a2, cap2, r2, rfl, HR, ho2, hb2⟩

theorem hdR_cells {w : World} {b off : Nat} {l : List Hd} (h : HdR w (some ⟨b, off, none⟩) l) : ∀ j u, (hcs l)[j]? = some u → w.cell? ⟨b, off + j, none⟩ = some u := by
  intro j u hu
  have hlen : j < l.length * 2 := by
    have := (List.getElem?_eq_some_iff.1 hu).1
    rw [hcs_length] at this
    omega
  have hi : j / 2 < l.length := by omega
  obtain ⟨b', off', e, hc⟩ := h.mem (by intro e; subst e; simp at hi)
  obtain ⟨rfl, rfl⟩ : b = b' ∧ off = off' := by simpa using e
  obtain ⟨c0, c1⟩ := hc (j / 2) _ (List.getElem?_eq_getElem hi)
  have hj : j = j / 2 * 2 + j % 2 := by omega
  rw [hj, hcs_get l (j / 2) (j % 2) _ (List.getElem?_eq_getElem hi) (by omega)] at hu
  rcases Nat.mod_two_eq_zero_or_one j with h0 | h0
  · rw [h0] at hu
    cases hu
    rw [show (⟨b, off + j, none⟩ : Addr) = ⟨b, off + j / 2 * 2, none⟩ by congr 1; omega]
    exact c0
  · rw [h0] at hu
    cases hu
    rw [show (⟨b, off + j, none⟩ : Addr) = ⟨b, off + j / 2 * 2 + 1, none⟩ by congr 1; omega]
    exact c1
theorem ownH_empty (w : World) (base : Nat) (hb : base ≤ w.heap.size) : OwnH (w.alloc (.cells #[] 49)) base (some ⟨w.heap.size, 0, none⟩) 0 [] :=
  World.ownsRow_made w #[] 0 hb (by unfold maxLen; omega) rfl
/-- append(s, x...) of headers, s the call's own. -/
theorem wp_apphs (w : World) {ops : Array Oper} {rest : List Oper} {o : Oper} {a : Act} {Q : Exit → Act → World → Prop} (hgd : o.guard = none) (s x : Operand)
    (ho : o.op = .call { callee := .builtin .append, args := #[s, x], argTypes := #[37, 37] })
    (base : Nat) (a1 : Option Addr) (cap1 : Nat) (l1 : List Hd) (hs : a.eval s = .slice a1 l1.length cap1) (hown : OwnH w base a1 cap1 l1)
    (ad : Addr) (c2 n2 : Nat) (l2 : List Hd) (hx : a.eval x = .slice (some ad) n2 c2) (hn2 : n2 = l2.length) (hsrc : ∀ j u, (hcs l2)[j]? = some u → w.cell? (ad.add j) = some u) (hlen : l1.length + l2.length ≤ 100000000) (hbase : base ≤ w.heap.size)
    (h : ∀ a' cap' r w', Hid (r = l1 ++ l2) → OwnH w' base a' cap' r → w.grownBy w' (blk a1) → wpList Tryz.prog ops Q rest (a.put o.dst (.slice a' r.length cap')) w') : wpList Tryz.prog ops Q (o :: rest) a w := by
  subst hn2
  obtain ⟨i, hi, hz0, hz1, hz2⟩ := info_parts Tryz.infoHd
  have hblk : (Value.slice a1 l1.length cap1).ownBlock = blk a1 := by cases a1 <;> rfl
  refine wpList_append_own w hgd s x 37 ho base 49 i (.agg #[.string ByteArray.empty, .string ByteArray.empty]) 2 32 Tryz.underlying37 hi hz0 hz1 hz2 rfl (by decide) _ _ _ hs hown ad l2.length c2 (hcs l2) hx (by rw [hcs_length]) hsrc (hcs_one l2) (by unfold maxLen; omega) (by omega) hbase ?_
  intro v' w' h1 h2 _
  have e1 : l1.length + l2.length = (l1 ++ l2).length := by simp
  have e2 : hcs l1 ++ hcs l2 = hcs (l1 ++ l2) := (hcs_append l1 l2).symm
  rw [e1, e2] at h1
  have hv : ∃ a' cap', v' = .slice a' (l1 ++ l2).length cap' := by
    rcases h1.2 with ⟨hv, hn⟩ | ⟨g, cap, cur, hv, _⟩
    · exact ⟨none, 0, by rw [hv, hn]⟩
    · exact ⟨_, _, hv⟩
  obtain ⟨a', cap', rfl⟩ := hv
  rw [hblk] at h2
  exact h a' cap' _ w' rfl h1 h2
set_option maxHeartbeats 2000000 in
theorem cloneH_any (a : Option Addr) (cp : Nat) (l : List Hd) (w : World) (hr : HdR w a l) (hl : l.length ≤ 1000000) :
    Calls Tryz.prog 22 #[.slice a l.length cp] w fun e w' => ∃ a' cap' r, e = .returned (.slice a' r.length cap') ∧ Hid (r = l) ∧ Hid (OwnH w' w.heap.size a' cap' r) ∧ Hid (Below w.heap.size w w') := by
  have hq := fun (wx : World) (a : Option Addr) (n c : Nat) => Lib.run_eql_slice_nil (P := Tryz.prog) wx 37 49 a n c 0 0 Tryz.underlying37
  cases a with
  | none =>
    have hl0 : l = [] := by
      apply Classical.byContradiction
      intro hne
      obtain ⟨b, off, hh, _⟩ := hr.mem hne
      cases hh
    subst hl0
    go_enter Tryz.func22, Tryz.ntmps22
    go_wp2
    go_ret
    exact ⟨none, 0, [], rfl, rfl, OwnH.nil _ _, Below.refl _ _⟩
  | some ad =>
    have HSR : Hid (∀ o j u, (hcs l)[j]? = some u → (w.alloc o).cell? (ad.add j) = some u) := fun o j u hu => by
      obtain ⟨b, off, hh, _⟩ := hr.mem (by intro e; subst e; simp [hcs] at hu)
      obtain rfl : ad = ⟨b, off, none⟩ := by simpa using hh
      rw [addr_add]
      exact Lib.cell?_alloc_some o (hdR_cells hr j u hu)
    clear hr
    go_enter Tryz.func22, Tryz.ntmps22
    go_wp2_with (at_builtin; refine wp_apphs _ rfl _ _ rfl w.heap.size (some ⟨w.heap.size, 0, none⟩) 0 [] rfl (ownH_empty w _ (Nat.le_refl _)) ad cp _ l rfl rfl (HSR.out _) ?k1 ?k2 ?_)
    case k1 => simp; omega
    case k2 => simp
    intro a2 cap2 r2 w2 hr2 ho2 hg2
    have HB : Hid (Below w.heap.size w w2) := below_grown (a := some ⟨w.heap.size, 0, none⟩) ((Below.refl _ _).alloc (Nat.le_refl _) _) hg2 (Nat.le_refl _) (fun k hk => by simp [blk] at hk; omega)
    have HR : Hid (r2 = l) := by
      show _ = _
      exact hr2.out.trans (List.nil_append _)
    have HO := hide ho2
    clear hr2 hg2 ho2
    go_wp2
    go_ret
    exact ⟨a2, cap2, r2, rfl, HR, HO, HB⟩
#print axioms cloneH_any
end Go.Proofs.YtonaekkenggmbaaGreatDoor
end
