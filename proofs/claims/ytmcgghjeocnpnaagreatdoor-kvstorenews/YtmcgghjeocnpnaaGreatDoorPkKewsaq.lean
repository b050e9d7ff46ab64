/-
  seglog: the library's numbers in digits; a segment's name (nameOf), the number of a name (numberOf).; seglog: rows of segments in memory; a log in memory.; seglog: a log in memory; unmade, last, First, Next, Segments.; seglog: First, Next, Segments, Bytes; a segment's records from a number on; Read.; seglog: Read.; seglog: a record put behind a segment's (put).; seglog: a log over its disk; put on the last segment; Sync.; seglog: Sync.
-/
import Derived.Test.YtmcgghjeocnpnaaGreatDoorPkKewsap
import Derived.Test.YtmcgghjeocnpnaaGreatDoorPkKewsam
import Derived.Test.YtmcgghjeocnpnaaGreatDoorPkKewsaa
import Derived.Shelf.Strconv.AtoiAll
import Derived.Lib.LaidTab
import Derived.Lib.ItoaLen
import Derived.Lib.LaidU8
import Derived.LaidLaws
import Derived.Test.YtmcgghjeocnpnaaGreatDoorPkKewsad
import Derived.Deep.AppendLies
import Derived.Deep.RegionHeld3
section
set_option linter.unusedVariables false
set_option maxRecDepth 1000000
namespace Go.Proofs.YtmcgghjeocnpnaaGreatDoor
open Go.RowKit

theorem str_app (x y : List UInt8) : str x ++ str y = str (x ++ y) := by
  apply ByteArray.ext
  simp [str, ByteArray.data_append]
/-- The library's powers of ten. -/
def P10 (w : World) : Prop := Lib.TabIs Tryz.prog w "internal/strconv.uint64pow10" .u64 Lib.pow10Tab
theorem P10.below {w w' : World} {B : Nat} (h : P10 w) (hb : Below B w w') (hB : w.heap.size ≤ B) : P10 w' := by
  have hgn : Tryz.prog.globalNamed "internal/strconv.uint64pow10" = some 2 := by kernel_rfl
  unfold P10 Lib.TabIs World.var? at h ⊢
  rw [hgn] at h ⊢
  simp only [Option.bind_some] at h ⊢
  have hlt : 2 < w.heap.size := by
    rcases Nat.lt_or_ge 2 w.heap.size with h' | h'
    · exact h'
    · rw [Array.getElem?_eq_none h'] at h; cases h
  rw [hb.block _ (Nat.lt_of_lt_of_le hlt hB)]
  exact h
theorem p10_of_reads {w : World} (h : Lib.VarReads Tryz.prog w "internal/strconv.uint64pow10" (Lib.tabData .u64 Lib.pow10Tab)) : P10 w := by
  obtain ⟨g', t', cs, fuel, p, hg, hty, hvar, hd⟩ := h
  obtain rfl := Option.some.inj ((show Tryz.prog.globalNamed "internal/strconv.uint64pow10" = some 2 by kernel_rfl).symm.trans hg)
  obtain rfl := Option.some.inj ((show (Tryz.prog.globals[2]?).map (·.type) = some 273 by kernel_rfl).symm.trans hty)
  unfold P10 Lib.TabIs
  rw [hvar, ← Lib.cells_of_tab Tryz.underlying273 Tryz.underlying148 (by kernel_rfl) (by kernel_rfl) hd]
theorem bdr {B : Nat} {w0 w : World} (h : Below B w0 w) : ∀ n : Nat, Below B w0 (w.drewN n)
  | 0 => h
  | n + 1 => ⟨(bdr h n).os, (bdr h n).tape, (bdr h n).output, (bdr h n).size, (bdr h n).block⟩
theorem below_growW {w : World} (k : Nat) (os : Array Obj) : Below w.heap.size w (Go.Sort.grow (w.drewN k) os) := by
  have h1 : Below w.heap.size w (w.drewN k) := bdr (Below.refl _ _) k
  refine ⟨h1.os, h1.tape, h1.output, ?_, fun j hj => ?_⟩
  · simp [Go.Sort.grow]
  · have h2 : j < (w.drewN k).heap.size := Nat.lt_of_lt_of_le hj h1.size
    rw [← h1.block j hj]
    exact Array.getElem?_append_left h2
theorem itoa_any (n : Int) (h0 : -9223372036854775808 ≤ n) (h1 : n ≤ 9223372036854775807) (w : World) (h : P10 w) :
    Calls Tryz.prog 145 #[.int .i64 n] w fun e w' => e = .returned (.string (str (Lib.itoa n))) ∧ Hid (Below w.heap.size w w') :=
  Calls.mono (Any.strconv_Itoa (ρ := Tryz.laysM171_ren) Tryz.laysM171 n h0 h1 w h) (fun e w' h => ⟨h.1, by obtain ⟨k, os, rfl⟩ := h.2; exact below_growW k os⟩)
/-- strconv.ErrRange, strconv.ErrSyntax are laid. -/
def Rx (w : World) : Prop := ∃ te pe, w.cell? ⟨1, 0, none⟩ = some (.iface te pe)
def Sx (w : World) : Prop := ∃ te pe, w.cell? ⟨0, 0, none⟩ = some (.iface te pe)
theorem Rx.below {w w' : World} {B : Nat} (h : Rx w) (hb : Below B w w') (hB : w.heap.size ≤ B) : Rx w' := by
  obtain ⟨a, b, hc⟩ := h
  exact ⟨a, b, by rw [hb.cell (Nat.lt_of_lt_of_le (World.block_lt_of_cell? w _ hc) hB)]; exact hc⟩
theorem Sx.below {w w' : World} {B : Nat} (h : Sx w) (hb : Below B w w') (hB : w.heap.size ≤ B) : Sx w' := by
  obtain ⟨a, b, hc⟩ := h
  exact ⟨a, b, by rw [hb.cell (Nat.lt_of_lt_of_le (World.block_lt_of_cell? w _ hc) hB)]; exact hc⟩
theorem rx_of_reads {w : World} {nm : String} {d : DataW Unit} (h : Lib.VarReads Tryz.prog w "strconv.ErrRange" (.iface nm d)) : Rx w := by
  obtain ⟨g', t', cs, fuel, p, hg, hty, hvar, hd⟩ := h
  obtain rfl := Option.some.inj ((show Tryz.prog.globalNamed "strconv.ErrRange" = some 1 by kernel_rfl).symm.trans hg)
  obtain rfl := Option.some.inj ((show (Tryz.prog.globals[1]?).map (·.type) = some 213 by kernel_rfl).symm.trans hty)
  obtain ⟨f1, u, v, hcs, _, _⟩ := iface_of_trod Tryz.underlying213 hd
  refine ⟨u, v, ?_⟩
  rw [World.var?_cell hg hvar 0, ← Array.getElem?_toList, hcs]
  rfl
theorem sx_of_reads {w : World} {nm : String} {d : DataW Unit} (h : Lib.VarReads Tryz.prog w "strconv.ErrSyntax" (.iface nm d)) : Sx w := by
  obtain ⟨g', t', cs, fuel, p, hg, hty, hvar, hd⟩ := h
  obtain rfl := Option.some.inj ((show Tryz.prog.globalNamed "strconv.ErrSyntax" = some 0 by kernel_rfl).symm.trans hg)
  obtain rfl := Option.some.inj ((show (Tryz.prog.globals[0]?).map (·.type) = some 213 by kernel_rfl).symm.trans hty)
  obtain ⟨f1, u, v, hcs, _, _⟩ := iface_of_trod Tryz.underlying213 hd
  refine ⟨u, v, ?_⟩
  rw [World.var?_cell hg hvar 0, ← Array.getElem?_toList, hcs]
  rfl
/-- What the library's variables hold. -/
structure EnvS (w : World) : Prop where
  p : P10 w
  r : Rx w
  s : Sx w
theorem EnvS.below {w w' : World} {B : Nat} (h : EnvS w) (hb : Below B w w') (hB : w.heap.size ≤ B) : EnvS w' := ⟨h.p.below hb hB, h.r.below hb hB, h.s.below hb hB⟩
theorem atoi_all9 (l : List UInt8) (w : World) (hl : l.length ≤ 1000000) (hs : Sx w) (hr : Rx w) :
    Calls Tryz.prog 160 #[.string (str l)] w fun e w' => ∃ v ev, e = .returned (.tuple #[.int .i64 v, ev]) ∧ Hid (Below w.heap.size w w') ∧ ((atO l = some v ∧ ev = .nilIface) ∨ (atO l = none ∧ ∃ t p, ev = .iface t p)) := by
  have hz : (str l).size = l.length := str_size l
  cases h : Lib.atoiAll l with
  | ok v =>
    refine (Any.strconv_Atoi_ok (ρ := Tryz.laysC172_ren) Tryz.laysC172 (str l) (by omega) v h w).mono ?_
    rintro e w' ⟨rfl, hw⟩
    refine ⟨v, .nilIface, rfl, ?_, .inl ⟨by unfold atO; rw [h], rfl⟩⟩
    rcases hw with rfl | ⟨t, rfl⟩
    · exact Below.refl _ _
    · exact Lib.bytesWorld_below _ _ _
  | «syntax» =>
    obtain ⟨te, pe, hc⟩ := hs
    refine (Any.strconv_Atoi_syntax (ρ := Tryz.laysC172_ren) Tryz.laysC172 (str l) (by omega) h (.iface te pe) w hc (.inr ⟨te, pe, rfl⟩)).mono ?_
    rintro e w' ⟨N, rfl, hN, hrow, hb⟩
    exact ⟨0, _, rfl, hb, .inr ⟨by unfold atO; rw [h], _, _, rfl⟩⟩
  | range =>
    obtain ⟨te, pe, hc⟩ := hr
    refine (Any.strconv_Atoi_range (ρ := Tryz.laysC172_ren) Tryz.laysC172 (str l) (by omega) h (.iface te pe) w hc (.inr ⟨te, pe, rfl⟩)).mono ?_
    rintro e w' ⟨N, rfl, hN, hrow, hb⟩
    exact ⟨_, _, rfl, hb, .inr ⟨by unfold atO; rw [h], _, _, rfl⟩⟩
theorem Tryz.bx105 : Builder.Extra Tryz.prog Tryz.lays105_ren := { sizeBuilder := by kernel_rfl, liesBuilder := by kernel_rfl, t5 := by kernel_rfl, a5 := fun w => by kernel_rfl, z5 := fun w => by kernel_rfl, v5 := fun w => by kernel_rfl, infoByte := by kernel_rfl, cellsByte := by kernel_rfl, sizeByte := by kernel_rfl, neB5 := by decide }
theorem rep_nought (c : Nat) : Lib.repeatL [48] c = List.replicate c 48 := by
  induction c with
  | zero => rfl
  | succ c ih => rw [Lib.repeatL, ih, List.replicate_succ]; rfl
theorem rep_any (c : Nat) (w : World) (hc : c ≤ 1000) :
    Calls Tryz.prog 146 #[.string ⟨#[48]⟩, .int .i64 (c : Int)] w fun e w' => e = .returned (.string (str (List.replicate c 48))) ∧ Hid (Below w.heap.size w w') := by
  have hz : (⟨#[48]⟩ : ByteArray).size = 1 := rfl
  refine (Any.strings_Repeat (ρ := Tryz.lays105_ren) Tryz.lays105 Tryz.bx105 ⟨#[48]⟩ c w (by omega) (by rw [hz]; omega)).mono ?_
  rintro e w' ⟨rfl, hb⟩
  refine ⟨?_, hb⟩
  show Ending.returned (.string ⟨(Lib.repeatL [48] c).toArray⟩) = _
  rw [rep_nought]
  rfl
set_option maxHeartbeats 2000000 in
theorem ahead_any (n : Nat) (w : World) (hn : n ≤ 9223372036854775807) (hE : EnvS w) :
    Calls Tryz.prog 122 #[.int .i64 (n : Int), .int .i64 19] w fun e w' => e = .returned (.string (str (padS n))) ∧ Hid (Below w.heap.size w w') := by
  have HI := hide (itoa_any (n : Int) (by omega) (by omega) w hE.p)
  have hl19 := (pad_facts n hn).2.2
  have HP : Hid (padS n = List.replicate (19 - (Lib.decDigits n).length) 48 ++ Lib.decDigits n) := rfl
  have hd1 := (dec_facts 19 n (by omega)).2.2.2
  rw [Lib.itoa_nonneg] at HI
  generalize padS n = pd at *
  generalize Lib.decDigits n = dg at *
  have hdl : dg.length ≤ 19 := by omega
  obtain ⟨c, hc⟩ : ∃ c, c = 19 - dg.length := ⟨_, rfl⟩
  rw [← hc] at HP
  have HR : Hid (∀ w, Calls Tryz.prog 146 #[.string ⟨#[48]⟩, .int .i64 (c : Int)] w fun e w' => e = .returned (.string (str (List.replicate c 48))) ∧ Hid (Below w.heap.size w w')) := fun w => rep_any c w (by omega)
  have zd : (str dg).size = dg.length := str_size dg
  have zr : (str (List.replicate c 48)).size = c := by rw [str_size]; simp
  have hcat : str (List.replicate c 48) ++ str dg = str pd := by rw [unhide HP]; exact str_app _ _
  have e1 : IntKind.i64.wrap (19 - (dg.length : Int)) = (c : Int) := by rw [IntKind.wrap_i64]; omega
  have e2 : (19 : Int) - (dg.length : Int) = (c : Int) := by omega
  have e3 : max (0 : Int) (c : Int) = (c : Int) := by omega
  have e4 : ¬ (c : Int) < 0 := by omega
  have hc9 : c ≤ 19 := by omega
  generalize List.replicate c 48 = rp at *
  clear hE hc HP hd1
  go_enter Tryz.func122, Tryz.ntmps122
  go_wp2_with fail
  refine (unhide HI).mono ?_
  rintro e w1 ⟨rfl, HB1⟩
  clear HI
  go_wp2_with fail
  refine (unhide HR _).mono ?_
  rintro e w2 ⟨rfl, HB2⟩
  have HBF : Hid (Below w.heap.size w w2) := (unhide HB1).trans ((unhide HB2).mono (unhide HB1).size)
  clear HR HB1 HB2
  go_wp2_with fail
  go_ret
  exact ⟨rfl, HBF⟩
set_option maxHeartbeats 1000000 in
theorem nameOf_any (n : Nat) (w : World) (hn : n ≤ 9223372036854775807) (hE : EnvS w) :
    Calls Tryz.prog 88 #[.int .i64 (n : Int)] w fun e w' => e = .returned (.string (str (nmS n))) ∧ Hid (Below w.heap.size w w') := by
  have HA := hide (ahead_any n w hn hE)
  have hl := (pad_facts n hn).2.2
  have HN : Hid (nmS n = segP ++ padS n) := rfl
  generalize padS n = pd at *
  generalize nmS n = nm at *
  have hcat : (⟨#[115, 101, 103, 46]⟩ : ByteArray) ++ str pd = str nm := by rw [unhide HN]; exact str_app segP pd
  have z1 : (⟨#[115, 101, 103, 46]⟩ : ByteArray).size = 4 := rfl
  have z2 : (str pd).size = 19 := by rw [str_size, hl]
  clear hE HN hl
  go_enter Tryz.func88, Tryz.ntmps88
  go_wp2_with fail
  refine (unhide HA).mono ?_
  rintro e w1 ⟨rfl, HB1⟩
  go_wp2_with fail
  go_ret
  exact ⟨rfl, HB1⟩
#print axioms nameOf_any
theorem trimp_any (s : List UInt8) (w : World) : Calls Tryz.prog 161 #[.string (str s), .string ⟨#[115, 101, 103, 46]⟩] w fun e w' => e = .returned (.string (str (Lib.trimPrefix s segP))) ∧ w' = w := by
  refine (Any.strings_TrimPrefix (ρ := Tryz.lays101_ren) Tryz.lays101 (str s) ⟨#[115, 101, 103, 46]⟩ w).mono ?_
  rintro e w' ⟨rfl, rfl⟩
  exact ⟨rfl, rfl⟩
theorem trimp_len (s : List UInt8) : (Lib.trimPrefix s segP).length ≤ s.length := by
  unfold Lib.trimPrefix
  split
  · simp
  · exact Nat.le_refl _
set_option maxHeartbeats 2000000 in
theorem numberOf_any (nm : List UInt8) (w : World) (hl : nm.length ≤ 1000000) (hE : EnvS w) :
    Calls Tryz.prog 132 #[.string (str nm)] w fun e w' => ∃ n : Nat, ∃ b, e = .returned (.tuple #[.int .i64 (n : Int), .bool b]) ∧ Hid ((b = true ∧ numM nm = some n) ∨ (b = false ∧ numM nm = none)) ∧ Hid (Below w.heap.size w w') := by
  have HT := hide (trimp_any nm w)
  have htl := trimp_len nm
  have HNM : Hid (numM nm = match atO (Lib.trimPrefix nm segP) with | some v => if 1 ≤ v ∧ nmS v.toNat = nm then some v.toNat else none | none => none) := rfl
  have HAT := hide (atoi_all9 (Lib.trimPrefix nm segP) w (by omega) hE.s hE.r)
  have HRG := hide (atO_range (Lib.trimPrefix nm segP))
  generalize Lib.trimPrefix nm segP = tp at *
  generalize numM nm = X at *
  have HE := hide hE
  clear hE
  go_enter Tryz.func132, Tryz.ntmps132
  go_wp2_with fail
  refine (unhide HT).mono ?_
  rintro e w0 ⟨rfl, rfl⟩
  clear HT
  go_wp2_with fail
  refine (unhide HAT).mono ?_
  rintro e w1 ⟨v, ev, rfl, HB1, hv⟩
  clear HAT
  rcases hv with ⟨hv, rfl⟩ | ⟨hv, t, p, rfl⟩
  · have hX := unhide HNM
    rw [hv] at hX
    simp only at hX
    obtain ⟨r1, r2⟩ := unhide HRG v hv
    by_cases h1 : v < 1
    · have HXX : Hid (X = none) := by show _ = _; rw [hX, if_neg (by omega)]
      clear hX hv HNM HRG
      go_wp2_with fail
      go_ret2
      exact ⟨0, false, rfl, .inr ⟨rfl, unhide HXX⟩, HB1⟩
    · obtain ⟨n, rfl⟩ : ∃ n : Nat, v = (n : Int) := ⟨v.toNat, by omega⟩
      have HNO := hide (nameOf_any n w1 (by omega) ((unhide HE).below (unhide HB1) (Nat.le_refl _)))
      rw [Int.toNat_natCast] at hX
      have q1 : ((str (nmS n)).toList == (str nm).toList) = (nmS n == nm) := by rw [toList_str, toList_str]
      have q2 : ((str (nmS n)).toList != (str nm).toList) = !(nmS n == nm) := by show (!((str (nmS n)).toList == (str nm).toList)) = _; rw [q1]
      have HXX : Hid (X = if 1 ≤ (n : Int) ∧ nmS n = nm then some n else none) := hX
      generalize nmS n = m at *
      clear hX hv HNM HRG
      cases hb : (m == nm) with
      | true =>
        have HF : Hid (X = some n) := by show _ = _; rw [unhide HXX, if_pos ⟨by omega, by simpa using hb⟩]
        rw [hb] at q1 q2
        clear hb HXX
        go_wp2_with fail
        refine (unhide HNO).mono ?_
        rintro e w2 ⟨rfl, HB2⟩
        have HBF : Hid (Below w0.heap.size w0 w2) := (unhide HB1).trans ((unhide HB2).mono (unhide HB1).size)
        clear HNO HB2 HB1
        go_wp2_with fail
        go_ret2
        exact ⟨n, true, rfl, .inl ⟨rfl, unhide HF⟩, HBF⟩
      | false =>
        have HF : Hid (X = none) := by show _ = _; rw [unhide HXX, if_neg (fun e => by rw [e.2] at hb; simp at hb)]
        rw [hb] at q1 q2
        clear hb HXX
        go_wp2_with fail
        refine (unhide HNO).mono ?_
        rintro e w2 ⟨rfl, HB2⟩
        have HBF : Hid (Below w0.heap.size w0 w2) := (unhide HB1).trans ((unhide HB2).mono (unhide HB1).size)
        clear HNO HB2 HB1
        go_wp2_with fail
        go_ret2
        exact ⟨0, false, rfl, .inr ⟨rfl, unhide HF⟩, HBF⟩
  · have HXX : Hid (X = none) := by show _ = _; rw [unhide HNM, hv]
    clear hv HNM HRG
    go_wp2_with fail
    go_ret2
    exact ⟨0, false, rfl, .inr ⟨rfl, unhide HXX⟩, HB1⟩
#print axioms numberOf_any
end Go.Proofs.YtmcgghjeocnpnaaGreatDoor
end
section
set_option linter.unusedVariables false
namespace Go.Proofs.YtmcgghjeocnpnaaGreatDoor
open Go.RowKit Go.Maps

/-- A segment as it lies: its first number, its records' slice, its size. -/
structure Gt where
  f : Nat
  v : Sl
  z : Nat
def gcC (t : Gt) : List Value := [.int .i64 (t.f : Int), .slice t.v.1 t.v.2.1 t.v.2.2, .int .i64 (t.z : Int)]
def gcs (l : List Gt) : List Value := l.flatMap gcC
theorem gcs_length (l : List Gt) : (gcs l).length = l.length * 3 := by
  induction l with
  | nil => rfl
  | cons t r ih => simp [gcs, gcC] at ih ⊢; omega
theorem gcs_append (l r : List Gt) : gcs (l ++ r) = gcs l ++ gcs r := by simp [gcs]
theorem gcs_one (l : List Gt) : ∀ u ∈ gcs l, u.oneCell' = true := by
  intro u hu
  obtain ⟨t, _, ht⟩ := List.mem_flatMap.1 hu
  simp [gcC] at ht
  rcases ht with rfl | rfl | rfl <;> rfl
theorem gcs_get : ∀ (l : List Gt) (i j : Nat) (t : Gt), l[i]? = some t → j < 3 → (gcs l)[i * 3 + j]? = (gcC t)[j]?
  | [], i, j, t, h, _ => by simp at h
  | u :: r, 0, j, t, h, hj => by
    simp at h
    subst h
    show (gcC u ++ gcs r)[0 * 3 + j]? = _
    rw [List.getElem?_append_left (by simp [gcC]; omega)]
    simp
  | u :: r, i + 1, j, t, h, hj => by
    show (gcC u ++ gcs r)[(i + 1) * 3 + j]? = _
    have e : (i + 1) * 3 + j = (gcC u).length + (i * 3 + j) := by simp [gcC]; omega
    rw [e, List.getElem?_append_right (by omega), Nat.add_sub_cancel_left]
    exact gcs_get r i j t (by simpa using h) hj
def OwnG (w : World) (a : Option Addr) (cap : Nat) (l : List Gt) : Prop := w.ownsRow 0 122 3 (.slice a l.length cap) l.length (gcs l)
theorem OwnG.cases {w : World} {a : Option Addr} {cap : Nat} {l : List Gt} (h : OwnG w a cap l) :
    (a = none ∧ cap = 0 ∧ l = []) ∨ ∃ g cur, a = some ⟨g, 0, none⟩ ∧ w.heap[g]? = some (.cells cur 122 (0, 0)) ∧ l.length ≤ cap ∧ cap ≤ maxLen ∧ cur.size = cap * 3 ∧ cur.toList.take (l.length * 3) = gcs l := by
  rcases h.2 with ⟨hv, hn⟩ | ⟨g, cap', cur, hv, hb, hg, hle, hm, hs, ht⟩
  · simp only [Value.slice.injEq] at hv
    exact .inl ⟨hv.1, hv.2.2, List.eq_nil_of_length_eq_zero hn⟩
  · simp only [Value.slice.injEq, true_and] at hv
    obtain ⟨rfl, rfl⟩ := hv
    exact .inr ⟨g, cur, rfl, hg, hle, hm, hs, ht⟩
theorem OwnG.nil (w : World) : OwnG w none 0 [] := World.ownsRow_nil w 0 _ _
theorem OwnG.lt {w : World} {a : Option Addr} {cap : Nat} {l : List Gt} (h : OwnG w a cap l) : ∀ k, blk a = some k → k < w.heap.size := by
  intro k hk
  rcases h.cases with ⟨rfl, rfl, rfl⟩ | ⟨g, cur, rfl, hg, _⟩
  · simp [blk] at hk
  · simp [blk] at hk
    subst hk
    exact (Array.getElem?_eq_some_iff.1 hg).1
theorem OwnG.le {w : World} {a : Option Addr} {cap : Nat} {l : List Gt} (h : OwnG w a cap l) : l.length ≤ cap ∧ cap ≤ maxLen := by
  rcases h.cases with ⟨rfl, rfl, rfl⟩ | ⟨g, cur, rfl, hg, h1, h2, _⟩
  · exact ⟨Nat.le_refl _, Nat.zero_le _⟩
  · exact ⟨h1, h2⟩
theorem OwnG.same {w w' : World} {a : Option Addr} {cap : Nat} {l : List Gt} (h : OwnG w a cap l) (e : ∀ k, blk a = some k → w'.heap[k]? = w.heap[k]?) : OwnG w' a cap l := by
  refine ⟨h.1, ?_⟩
  rcases h.2 with hn | ⟨b, cap, cur, hv, hbb, hgg, rest⟩
  · exact .inl hn
  · refine .inr ⟨b, cap, cur, hv, hbb, ?_, rest⟩
    have e2 : blk a = some b := by simp only [Value.slice.injEq] at hv; rw [hv.1]; rfl
    exact (e b e2).trans hgg
theorem OwnG.st {w w' : World} {g g' : Nat → Tg} {S : Tg → Prop} {a : Option Addr} {cap : Nat} {l : List Gt} (h : OwnG w a cap l) (x : St w w' g g' S) (hs : ∀ k, blk a = some k → ¬ S (g k)) : OwnG w' a cap l :=
  h.same (fun k hk => x.block k (h.lt k hk) (hs k hk))
theorem OwnG.below {w w' : World} {a : Option Addr} {cap : Nat} {l : List Gt} (h : OwnG w a cap l) (x : Below w.heap.size w w') : OwnG w' a cap l :=
  h.same (fun k hk => x.block k (h.lt k hk))
/-- The cells of the segment at i. -/
theorem OwnG.at {w : World} {a : Option Addr} {cap : Nat} {l : List Gt} (h : OwnG w a cap l) {i : Nat} {t : Gt} (hi : l[i]? = some t) :
    ∃ g, a = some ⟨g, 0, none⟩ ∧ w.cell? ⟨g, i * 3, none⟩ = some (.int .i64 (t.f : Int)) ∧ w.cell? ⟨g, i * 3 + 1, none⟩ = some (.slice t.v.1 t.v.2.1 t.v.2.2) ∧ w.cell? ⟨g, i * 3 + 2, none⟩ = some (.int .i64 (t.z : Int)) ∧ ∀ j, w.frozen? ⟨g, j, none⟩ = false := by
  have hlt := (List.getElem?_eq_some_iff.1 hi).1
  rcases h.cases with ⟨rfl, rfl, rfl⟩ | ⟨g, cur, rfl, hg, hle, hm, hs, ht⟩
  · simp at hi
  · have key : ∀ j, j < 3 → w.cell? ⟨g, i * 3 + j, none⟩ = (gcC t)[j]? := by
      intro j hj
      rw [cell_of_row w g (i * 3 + j) cur _ (0, 0) hg, ← gcs_get l i j t hi hj, ← ht, List.getElem?_take, if_pos (by omega)]
      simp
    exact ⟨g, rfl, key 0 (by omega), key 1 (by omega), key 2 (by omega), fun j => frozen_of_row w g j _ _ hg⟩
theorem Tryz.infoG : (Tryz.prog.info? 122).map (fun i => (i.zero, i.size, i.bytes)) = some (some (.agg #[.int .i64 0, .slice none 0 0, .int .i64 0]), 3, 40) := by kernel_rfl
theorem newg_box {w : World} {B : Nat} {t : Gt} (h : w.heap[B]? = some (.cells (gcC t).toArray 122 (0, 0))) : ∀ j u, (gcs [t])[j]? = some u → w.cell? ((⟨B, 0, none⟩ : Addr).add j) = some u := by
  intro j u hu
  rw [addr_add, Nat.zero_add, cell_of_row w B j _ _ _ h]
  have : gcs [t] = gcC t := by simp [gcs]
  rw [this] at hu
  simpa using hu
/-- append(s, segment), s a row of segments, as a step of a region that draws its order. -/
theorem stp_appg (w : World) {ops : Array Oper} {o : Oper} {a : Act} {K : Act → World → Prop} {Q : Exit → Act → World → Prop} {E : Prop} (hgd : o.guard = none) (s x : Operand)
    (ho : o.op = .call { callee := .builtin .append, args := #[s, x], argTypes := #[118, 118] })
    (a1 : Option Addr) (cap1 : Nat) (l1 : List Gt) (n1 : Nat) (hs : a.eval s = .slice a1 n1 cap1) (hn1 : n1 = l1.length) (hown : OwnG w a1 cap1 l1)
    (B c2 : Nat) (t : Gt) (hx : a.eval x = .slice (some ⟨B, 0, none⟩) 1 c2) (hsrc : w.heap[B]? = some (.cells (gcC t).toArray 122 (0, 0))) (hlen : l1.length ≤ 1000000)
    (h : ∀ g cap w', Hid (OwnG w' (some ⟨g, 0, none⟩) cap (l1 ++ [t])) → Hid (w.grownBy w' (blk a1)) → Hid (blk a1 = some g ∨ g = w.heap.size) → K (a.put o.dst (.slice (some ⟨g, 0, none⟩) (n1 + 1) cap)) w') :
    if Region.wanted o (yielded ops a.tmps) = true then Oper.wp Tryz.prog o a w K Q else E := by
  subst hn1
  obtain ⟨i, hi, hz0, hz1, hz2⟩ := info_parts Tryz.infoG
  refine step_append_lies w hgd s x 118 ho 0 122 i _ 3 40 Tryz.underlying118 hi hz0 hz1 hz2 rfl (by decide) _ _ _ hs hown ⟨B, 0, none⟩ 1 c2 (gcs [t]) hx (by rw [gcs_length]; simp) (newg_box hsrc) (gcs_one [t]) (by decide) (by unfold maxLen; omega) (by omega) (Nat.zero_le _) _ rfl ?_
  intro g cap w' h1 h2 h3 h4
  rw [OwnA.ownBlock] at h2 h3
  refine h g cap w' ?_ h2 h3
  have e1 : l1.length + 1 = (l1 ++ [t]).length := by simp
  show OwnG _ _ _ _
  unfold OwnG
  rw [← e1, gcs_append]
  exact h1
/-- .. in a plain region. -/
theorem wp_appg (w : World) {ops : Array Oper} {rest : List Oper} {o : Oper} {a : Act} {Q : Exit → Act → World → Prop} (hgd : o.guard = none) (s x : Operand)
    (ho : o.op = .call { callee := .builtin .append, args := #[s, x], argTypes := #[118, 118] })
    (a1 : Option Addr) (cap1 : Nat) (l1 : List Gt) (n1 : Nat) (hs : a.eval s = .slice a1 n1 cap1) (hn1 : n1 = l1.length) (hown : OwnG w a1 cap1 l1)
    (B c2 : Nat) (t : Gt) (hx : a.eval x = .slice (some ⟨B, 0, none⟩) 1 c2) (hsrc : w.heap[B]? = some (.cells (gcC t).toArray 122 (0, 0))) (hlen : l1.length ≤ 1000000)
    (h : ∀ g cap w', Hid (OwnG w' (some ⟨g, 0, none⟩) cap (l1 ++ [t])) → Hid (w.grownBy w' (blk a1)) → Hid (blk a1 = some g ∨ g = w.heap.size) → wpList Tryz.prog ops Q rest (a.put o.dst (.slice (some ⟨g, 0, none⟩) (n1 + 1) cap)) w') : wpList Tryz.prog ops Q (o :: rest) a w := by
  subst hn1
  obtain ⟨i, hi, hz0, hz1, hz2⟩ := info_parts Tryz.infoG
  refine wpList_append_lies w hgd s x 118 ho 0 122 i _ 3 40 Tryz.underlying118 hi hz0 hz1 hz2 rfl (by decide) _ _ _ hs hown ⟨B, 0, none⟩ 1 c2 (gcs [t]) hx (by rw [gcs_length]; simp) (newg_box hsrc) (gcs_one [t]) (by decide) (by unfold maxLen; omega) (by omega) (Nat.zero_le _) _ rfl ?_
  intro g cap w' h1 h2 h3 h4
  rw [OwnA.ownBlock] at h2 h3
  refine h g cap w' ?_ h2 h3
  have e1 : l1.length + 1 = (l1 ++ [t]).length := by simp
  show OwnG _ _ _ _
  unfold OwnG
  rw [← e1, gcs_append]
  exact h1
/-- What a store into the segment at i leaves. -/
theorem OwnG.setAt {w : World} {G cap : Nat} {l : List Gt} (h : OwnG w (some ⟨G, 0, none⟩) cap l) (i j : Nat) (t u : Gt) (hi : l[i]? = some t) (hj : j < 3) (x : Value) (hu : ∀ k, k < 3 → (gcC u)[k]? = if k = j then some x else (gcC t)[k]?) :
    OwnG (w.setCell ⟨G, i * 3 + j, none⟩ x) (some ⟨G, 0, none⟩) cap (l.set i u) := by
  have hlt := (List.getElem?_eq_some_iff.1 hi).1
  rcases h.2 with ⟨hv, hn⟩ | ⟨b, cap', cur, hv, hbb, hgg, hle, hm, hs, ht⟩
  · cases hv
  · simp only [Value.slice.injEq, Option.some.injEq, Addr.mk.injEq, and_true, true_and] at hv
    obtain ⟨rfl, rfl⟩ := hv
    unfold OwnG
    rw [List.length_set]
    refine ⟨by rw [gcs_length, List.length_set], .inr ⟨G, cap, cur.setIfInBounds (i * 3 + j) x, rfl, hbb, ?_, hle, hm, by simp [hs], ?_⟩⟩
    · rw [heap_setCell_same _ _ _ _ _ _ hgg]
    · apply List.ext_getElem?
      intro p
      have hlen : (gcs (l.set i u)).length = l.length * 3 := by rw [gcs_length, List.length_set]
      by_cases hp : p < l.length * 3
      · obtain ⟨a, b, hab, hb3⟩ : ∃ a b, p = a * 3 + b ∧ b < 3 := ⟨p / 3, p % 3, by omega, by omega⟩
        have ha : a < l.length := by omega
        subst hab
        rw [List.getElem?_take, if_pos hp]
        have hcur : ∀ c < 3, cur[a * 3 + c]? = (gcs l)[a * 3 + c]? := fun c hc => by
          rw [← ht, List.getElem?_take, if_pos (by omega)]; simp
        obtain ⟨ta, hta⟩ : ∃ ta, l[a]? = some ta := ⟨_, List.getElem?_eq_getElem ha⟩
        by_cases hai : a = i
        · subst hai
          rw [hi] at hta
          cases hta
          rw [gcs_get (l.set a u) a b u (by rw [List.getElem?_set_self hlt]) hb3, hu b hb3]
          by_cases hbj : b = j
          · subst hbj
            rw [if_pos rfl, Array.getElem?_toList, Array.getElem?_setIfInBounds_self, if_pos (by rw [hs]; omega)]
          · rw [if_neg hbj, Array.getElem?_toList, Array.getElem?_setIfInBounds_ne (by omega), hcur b hb3, gcs_get l a b t hi hb3]
        · rw [gcs_get (l.set i u) a b ta (by rw [List.getElem?_set_ne (Ne.symm hai)]; exact hta) hb3, Array.getElem?_toList, Array.getElem?_setIfInBounds_ne (by omega), hcur b hb3, gcs_get l a b ta hta hb3]
      · rw [List.getElem?_take, if_neg hp, List.getElem?_eq_none (by omega)]
#print axioms stp_appg
#print axioms OwnG.setAt
end Go.Proofs.YtmcgghjeocnpnaaGreatDoor
end
section
set_option linter.unusedVariables false
set_option maxRecDepth 1000000
namespace Go.Proofs.YtmcgghjeocnpnaaGreatDoor
open Go.RowKit Go.Maps

/-- Whose the row of a segment's records is. -/
def tgR (n : Nat) : Tg := .lr 1 (List.replicate n 0)
theorem tgR_inj {n m : Nat} (h : tgR n = tgR m) : n = m := by
  unfold tgR at h
  simp only [Tg.lr.injEq, true_and] at h
  have := congrArg List.length h
  simpa using this
theorem OwnS.same9 {w w' : World} {base : Nat} {a : Option Addr} {cap : Nat} {l : List Sl} (h : OwnS w base a cap l) (e : ∀ k : Nat, blk a = Option.some k → w'.heap[k]? = w.heap[k]?) : OwnS w' base a cap l := by
  refine ⟨h.1, ?_⟩
  rcases h.2 with hn | ⟨b, cap, cur, hv, hbb, hgg, rest⟩
  · exact .inl hn
  · refine .inr ⟨b, cap, cur, hv, hbb, ?_, rest⟩
    have e2 : blk a = Option.some b := by simp only [Value.slice.injEq] at hv; rw [hv.1]; rfl
    exact (e b e2).trans hgg
theorem Bs.same9 {w w' : World} {a : Option Addr} {cap : Nat} {l : List UInt8} (h : Bs w a cap l) (e : ∀ k, blk a = some k → w'.heap[k]? = w.heap[k]?) : Bs w' a cap l := by
  refine ⟨fun hne => ?_, h.le, h.most, h.nz⟩
  obtain ⟨b, off, rfl, hc⟩ := h.row hne
  exact ⟨b, off, rfl, fun i hi => by rw [World.cell?_of_block (w := w) (e b rfl)]; exact hc i hi⟩
/-- Rows of records: each lies by itself. -/
structure Recs (w : World) (g : Nat → Tg) (vs : List Sl) (rs : List (List UInt8)) : Prop where
  n : vs.length = rs.length
  at' : ∀ (j : Nat) (v : Sl) (r : List UInt8), vs[j]? = some v → rs[j]? = some r → v.2.1 = r.length ∧ Bs w v.1 v.2.2 r ∧ ∀ k, blk v.1 = some k → k < w.heap.size ∧ g k = .s 1
/-- A segment in memory. -/
structure Seg (w : World) (g : Nat → Tg) (t : Gt) (s : Sg) : Prop where
  f : t.f = s.first
  z : t.z = s.size
  n : t.v.2.1 = s.recs.length
  vs : ∃ vs : List Sl, OwnS w 0 t.v.1 t.v.2.2 vs ∧ Recs w g vs s.recs
  gr : ∀ k, blk t.v.1 = some k → g k = tgR s.first
theorem Recs.st {w w' : World} {g g' : Nat → Tg} {S : Tg → Prop} {vs : List Sl} {rs : List (List UInt8)} (h : Recs w g vs rs) (x : St w w' g g' S) (hs : ¬ S (.s 1)) : Recs w' g' vs rs :=
  ⟨h.n, fun j v r h1 h2 => by
    obtain ⟨a, b, c⟩ := h.at' j v r h1 h2
    refine ⟨a, b.same9 (fun k hk => x.block k (c k hk).1 (by rw [(c k hk).2]; exact hs)), fun k hk => ⟨Nat.lt_of_lt_of_le (c k hk).1 x.size, (x.ag k (c k hk).1).trans (c k hk).2⟩⟩⟩
theorem Seg.st {w w' : World} {g g' : Nat → Tg} {S : Tg → Prop} {t : Gt} {s : Sg} (h : Seg w g t s) (x : St w w' g g' S) (hs : ¬ S (.s 1)) (hr : ¬ S (tgR s.first)) : Seg w' g' t s := by
  obtain ⟨vs, h1, h2⟩ := h.vs
  exact ⟨h.f, h.z, h.n, ⟨vs, h1.same9 (fun k hk => x.block k (h1.lt k hk).2 (by rw [h.gr k hk]; exact hr)), h2.st x hs⟩, fun k hk => (x.ag k (h1.lt k hk).2).trans (h.gr k hk)⟩
/-- A log in memory: block B, over the disk in block D. -/
structure LgS (w : World) (g : Nat → Tg) (B D : Nat) (P : Option Addr) (pc : Nat) (l : List Gt) (S : List Sg) : Prop where
  st : w.heap[B]? = some (.cells #[.pointer (some ⟨D, 0, none⟩), .slice P l.length pc] 120 (0, 0))
  gB : g B = .d 1
  gP : ∀ k, blk P = some k → g k = .p 1
  ow : OwnG w P pc l
  n : l.length = S.length
  sg : ∀ (i : Nat) t s, l[i]? = some t → S[i]? = some s → Seg w g t s
theorem LgS.lt {w : World} {g : Nat → Tg} {B D : Nat} {P : Option Addr} {pc : Nat} {l : List Gt} {S : List Sg} (h : LgS w g B D P pc l S) : B < w.heap.size := (Array.getElem?_eq_some_iff.1 h.st).1
theorem LgS.keep {w w' : World} {g g' : Nat → Tg} {X : Tg → Prop} {B D : Nat} {P : Option Addr} {pc : Nat} {l : List Gt} {S : List Sg} (h : LgS w g B D P pc l S) (x : St w w' g g' X) (hs : ∀ t, t.of 1 → ¬ X t) : LgS w' g' B D P pc l S :=
  ⟨x.heap h.st (by rw [h.gB]; exact hs _ rfl), (x.ag B h.lt).trans h.gB, fun k hk => (x.ag k (h.ow.lt k hk)).trans (h.gP k hk), h.ow.st x (fun k hk => by rw [h.gP k hk]; exact hs _ rfl), h.n, fun i t s h1 h2 => (h.sg i t s h1 h2).st x (hs _ rfl) (hs _ rfl)⟩
theorem LgS.below {w w' : World} {g : Nat → Tg} {B D : Nat} {P : Option Addr} {pc : Nat} {l : List Gt} {S : List Sg} (h : LgS w g B D P pc l S) (x : Below w.heap.size w w') : LgS w' g B D P pc l S := h.keep (St.ofBelow g (fun _ => False) x) (fun _ _ e => e)
theorem LgS.c0 {w : World} {g : Nat → Tg} {B D : Nat} {P : Option Addr} {pc : Nat} {l : List Gt} {S : List Sg} (h : LgS w g B D P pc l S) : w.cell? ⟨B, 0, none⟩ = some (.pointer (some ⟨D, 0, none⟩)) := cell_of_row _ _ _ _ _ _ h.st
theorem LgS.c1 {w : World} {g : Nat → Tg} {B D : Nat} {P : Option Addr} {pc : Nat} {l : List Gt} {S : List Sg} (h : LgS w g B D P pc l S) : w.cell? ⟨B, 1, none⟩ = some (.slice P l.length pc) := cell_of_row _ _ _ _ _ _ h.st
theorem LgS.fr {w : World} {g : Nat → Tg} {B D : Nat} {P : Option Addr} {pc : Nat} {l : List Gt} {S : List Sg} (h : LgS w g B D P pc l S) (k : Nat) : w.frozen? ⟨B, k, none⟩ = false := frozen_of_row _ _ _ _ _ h.st

/-! ### unmade, last -/
theorem unmade5 {w : World} {B : Nat} {D : Nat} (h : w.cell? ⟨B, 0, none⟩ = some (.pointer (some ⟨D, 0, none⟩))) :
    Calls Tryz.prog 56 #[.pointer (some ⟨B, 0, none⟩)] w fun e w' => e = .returned (.bool false) ∧ w' = w := by
  go_enter Tryz.func56, Tryz.ntmps56
  go_wp2_with fail
  go_ret
  exact ⟨rfl, rfl⟩
set_option maxHeartbeats 1000000 in
theorem last_nil {w : World} {B pc : Nat} {P : Option Addr} (h : w.cell? ⟨B, 1, none⟩ = some (.slice P 0 pc)) :
    Calls Tryz.prog 57 #[.pointer (some ⟨B, 0, none⟩)] w fun e w' => e = .returned (.pointer none) ∧ w' = w := by
  go_enter Tryz.func57, Tryz.ntmps57
  go_wp2_with fail
  go_ret
  exact ⟨rfl, rfl⟩
set_option maxHeartbeats 1000000 in
theorem last_cons {w : World} {B pc G n : Nat} (h : w.cell? ⟨B, 1, none⟩ = some (.slice (some ⟨G, 0, none⟩) (n + 1) pc)) (hn : n ≤ 1000000) :
    Calls Tryz.prog 57 #[.pointer (some ⟨B, 0, none⟩)] w fun e w' => e = .returned (.pointer (some ⟨G, n * 3, none⟩)) ∧ Hid (Below w.heap.size w w') := by
  obtain ⟨m, hm⟩ : ∃ m, m = n + 1 := ⟨_, rfl⟩
  rw [← hm] at h
  have e0 : ((m : Int) == 0) = false := by rw [beq_eq_false_iff_ne]; omega
  have e1 : (m : Int) - 1 = (n : Int) := by omega
  have e2 : (n : Int) < (m : Int) := by omega
  have e3 : (0 : Int) ≤ (n : Int) := by omega
  have e4 : n < m := by omega
  have e5 : IntKind.i64.wrap ((m : Int) - 1) = (n : Int) := by rw [IntKind.wrap_i64]; omega
  clear hm
  go_enter Tryz.func57, Tryz.ntmps57
  go_wp2_with fail
  go_quiet (fail)
  go_wp2_with fail
  go_ret
  exact ⟨rfl, bdr (Below.refl _ _) _⟩
#print axioms last_cons
set_option maxHeartbeats 1000000 in
theorem snext_any (G o f n c : Nat) (a : Option Addr) (w : World) (h0 : w.cell? ⟨G, o, none⟩ = some (.int .i64 (f : Int))) (h1 : w.cell? ⟨G, o + 1, none⟩ = some (.slice a n c)) (hb : f + n ≤ 9223372036854775807) :
    Calls Tryz.prog 58 #[.pointer (some ⟨G, o, none⟩)] w fun e w' => e = .returned (.int .i64 ((f + n : Nat) : Int)) ∧ Hid (Below w.heap.size w w') := by
  have e1 : IntKind.i64.wrap ((f : Int) + (n : Int)) = ((f + n : Nat) : Int) := by rw [IntKind.wrap_i64]; omega
  go_enter Tryz.func58, Tryz.ntmps58
  go_wp2_with fail
  go_quiet (fail)
  go_wp2_with fail
  go_ret
  exact ⟨rfl, bdr (Below.refl _ _) _⟩
#print axioms snext_any
end Go.Proofs.YtmcgghjeocnpnaaGreatDoor
end
section
set_option linter.unusedVariables false
set_option maxRecDepth 1000000
namespace Go.Proofs.YtmcgghjeocnpnaaGreatDoor
open Go.RowKit Go.Maps

/-- What a log's calls want of its numbers. -/
structure SOk (S : List Sg) : Prop where
  len : S.length ≤ 1000000
  nx : ∀ s ∈ S, s.next ≤ 9223372036854775807
  sz : bySz S ≤ 9000000000000000000
  rc : (S.flatMap (·.recs)).length ≤ 1000000
  rl : ∀ s ∈ S, ∀ r ∈ s.recs, r.length ≤ 1000000
theorem getLast_at {α : Type} (l : List α) (n : Nat) (h : l.length = n + 1) : l.getLast? = l[n]? := by
  rw [List.getLast?_eq_getElem?, h]; rfl
theorem LgS.at {w : World} {g : Nat → Tg} {B D : Nat} {P : Option Addr} {pc : Nat} {l : List Gt} {S : List Sg} (h : LgS w g B D P pc l S) {i : Nat} (hi : i < S.length) :
    ∃ t s G, l[i]? = some t ∧ S[i]? = some s ∧ P = some ⟨G, 0, none⟩ ∧ Seg w g t s ∧ w.cell? ⟨G, i * 3, none⟩ = some (.int .i64 (s.first : Int)) ∧ w.cell? ⟨G, i * 3 + 1, none⟩ = some (.slice t.v.1 s.recs.length t.v.2.2) ∧ w.cell? ⟨G, i * 3 + 2, none⟩ = some (.int .i64 (s.size : Int)) ∧ ∀ j, w.frozen? ⟨G, j, none⟩ = false := by
  obtain ⟨t, ht⟩ : ∃ t, l[i]? = some t := ⟨_, List.getElem?_eq_getElem (by rw [h.n]; exact hi)⟩
  obtain ⟨s, hs⟩ : ∃ s, S[i]? = some s := ⟨_, List.getElem?_eq_getElem hi⟩
  obtain ⟨G, hP, c0, c1, c2, fz⟩ := h.ow.at ht
  have sg := h.sg i t s ht hs
  rw [sg.f] at c0
  rw [sg.n] at c1
  rw [sg.z] at c2
  exact ⟨t, s, G, ht, hs, hP, sg, c0, c1, c2, fz⟩
set_option maxHeartbeats 1000000 in
theorem first5 (g : Nat → Tg) (B D : Nat) (P : Option Addr) (pc : Nat) (l : List Gt) (S : List Sg) (w : World) (h : LgS w g B D P pc l S) (ok : SOk S) :
    Calls Tryz.prog 48 #[.pointer (some ⟨B, 0, none⟩)] w fun e w' => e = .returned (.int .i64 (fsS S : Int)) ∧ Hid (Below w.heap.size w w') := by
  have c0 := h.c0
  have c1 := h.c1
  have HU := hide (unmade5 c0)
  rw [h.n] at c1
  cases S with
  | nil =>
    have c1' : w.cell? ⟨B, 1, none⟩ = some (.slice P 0 pc) := c1
    clear c1 h ok
    go_enter Tryz.func48, Tryz.ntmps48
    go_wp2_with fail
    refine (unhide HU).mono ?_
    rintro e w1 ⟨rfl, rfl⟩
    go_wp2_with fail
    go_ret
    exact ⟨rfl, Below.refl _ _⟩
  | cons s S' =>
    obtain ⟨t, s2, G, _, hs, rfl, _, d0, _, _, _⟩ := h.at (i := 0) (by simp)
    have hs2 : s = s2 := by simpa using hs
    subst hs2
    have d0' : w.cell? ⟨G, 0, none⟩ = some (.int .i64 (s.first : Int)) := by simpa using d0
    obtain ⟨n, hn⟩ : ∃ n, n = (s :: S').length := ⟨_, rfl⟩
    rw [← hn] at c1
    have e0 : ((n : Int) == 0) = false := by rw [beq_eq_false_iff_ne, hn]; simp; omega
    have e1 : 0 < n := by rw [hn]; simp
    have e2 : (0 : Int) < (n : Int) := by omega
    have HF : Hid (fsS (s :: S') = s.first) := rfl
    generalize fsS (s :: S') = X at *
    clear d0 hs hn h ok
    go_enter Tryz.func48, Tryz.ntmps48
    go_wp2_with fail
    refine (unhide HU).mono ?_
    rintro e w1 ⟨rfl, rfl⟩
    go_wp2_with fail
    go_ret
    exact ⟨by rw [unhide HF]; rfl, Below.refl _ _⟩
#print axioms first5
set_option maxHeartbeats 1000000 in
theorem next5 (g : Nat → Tg) (B D : Nat) (P : Option Addr) (pc : Nat) (l : List Gt) (S : List Sg) (w : World) (h : LgS w g B D P pc l S) (ok : SOk S) :
    Calls Tryz.prog 31 #[.pointer (some ⟨B, 0, none⟩)] w fun e w' => e = .returned (.int .i64 (nxS S : Int)) ∧ Hid (Below w.heap.size w w') := by
  have c0 := h.c0
  have c1 := h.c1
  have HU := hide (unmade5 c0)
  rw [h.n] at c1
  by_cases h0 : S.length = 0
  · have hS : S = [] := List.eq_nil_of_length_eq_zero h0
    rw [h0] at c1
    have HL := hide (last_nil c1)
    have HF : Hid (nxS S = 1) := by rw [hS]; rfl
    generalize nxS S = X at *
    clear c1 h ok hS h0
    go_enter Tryz.func31, Tryz.ntmps31
    go_wp2_with fail
    refine (unhide HU).mono ?_
    rintro e w1 ⟨rfl, rfl⟩
    go_wp2_with fail
    refine (unhide HL).mono ?_
    rintro e w1 ⟨rfl, rfl⟩
    go_wp2_with fail
    go_ret
    exact ⟨by rw [unhide HF]; rfl, Below.refl _ _⟩
  · obtain ⟨n, hn⟩ : ∃ n, S.length = n + 1 := ⟨S.length - 1, by omega⟩
    obtain ⟨t, s, G, _, hs, rfl, _, d0, d1, _, _⟩ := h.at (i := n) (by omega)
    have hnx : s.next ≤ 9223372036854775807 := ok.nx s (List.mem_of_getElem? hs)
    rw [hn] at c1
    have hn6 : n ≤ 1000000 := by have := ok.len; omega
    have HL := hide (last_cons c1 hn6)
    have HF : Hid (nxS S = s.first + s.recs.length) := by show _ = _; unfold nxS; rw [getLast_at S n hn, hs]; rfl
    have HNX : Hid (∀ w', Below w.heap.size w w' → Calls Tryz.prog 58 #[.pointer (some ⟨G, n * 3, none⟩)] w' fun e w'' => e = .returned (.int .i64 ((s.first + s.recs.length : Nat) : Int)) ∧ Hid (Below w'.heap.size w' w'')) := fun w' hb => snext_any G (n * 3) s.first s.recs.length t.v.2.2 t.v.1 w' (by rw [hb.cell (World.block_lt_of_cell? w _ d0)]; exact d0) (by rw [hb.cell (World.block_lt_of_cell? w _ d1)]; exact d1) hnx
    generalize nxS S = X at *
    clear c1 h ok hs hn h0 d0 d1 hnx
    go_enter Tryz.func31, Tryz.ntmps31
    go_wp2_with fail
    refine (unhide HU).mono ?_
    rintro e w1 ⟨rfl, rfl⟩
    go_wp2_with fail
    refine (unhide HL).mono ?_
    rintro e w2 ⟨rfl, HB2⟩
    go_wp2_with fail
    refine (unhide HNX w2 (unhide HB2)).mono ?_
    rintro e w3 ⟨rfl, HB3⟩
    have HBF : Hid (Below w1.heap.size w1 w3) := (unhide HB2).trans ((unhide HB3).mono (unhide HB2).size)
    clear HNX HL HB2 HB3
    go_wp2_with fail
    go_ret
    exact ⟨by rw [unhide HF, Int.natCast_add]; rfl, HBF⟩
#print axioms next5
theorem Tryz.elemSS : Tryz.prog.underlying 84 = some (.slice (Tryz.prog.elem 84)) := by kernel_rfl
theorem Tryz.sizeSS (w : World) : (sizeOf (Tryz.prog.elem 84)).run Tryz.prog w = .ok 1 w := by kernel_rfl
/-- A cut of a row of slices at its front. -/
theorem tailR (a : Option Addr) (n c k : Nat) (hk : k ≤ n) (hc : n ≤ c) :
    ∃ a', (∀ w, (Instr.slice 84 (.slice a n c) (some (.int .i64 (k : Int))) none none).run Tryz.prog w = .ok (.slice a' (n - k) (c - k)) w) ∧ ∀ w (vs : List Sl), n = vs.length → OwnS w 0 a c vs → vs.drop k ≠ [] → ∃ b off, a' = some ⟨b, off, none⟩ ∧ ∀ (t : Nat) x, (vs.drop k)[t]? = some x → w.cell? ⟨b, off + t, none⟩ = some (.slice x.1 x.2.1 x.2.2) := by
  refine ⟨if c = k then a else a.map (·.add (k * 1)), fun w => ?_, fun w vs hn ho hne => ?_⟩
  · rw [run_slice_l (P := Tryz.prog) w 84 _ n c Tryz.elemSS .i64 (k : Int) (by omega) (by omega), Tryz.sizeSS]
    simp only [Result.andThen, sliced, Int.toNat_natCast]
  · have hlt : k < vs.length := by
      apply Classical.byContradiction
      intro hh
      exact hne (List.drop_eq_nil_of_le (by omega))
    obtain ⟨G, rfl, _, _, _, hcell⟩ := ho.some (by omega)
    have hck : ¬ c = k := by omega
    refine ⟨G, k, by rw [if_neg hck, Option.map_some, Nat.mul_one, addr_add, Nat.zero_add], fun t x hx => ?_⟩
    rw [List.getElem?_drop] at hx
    exact hcell (k + t) x hx
#print axioms tailR
theorem bySz_take (S : List Sg) (k : Nat) (s : Sg) (h : S[k]? = some s) : bySz (S.take (k + 1)) = bySz (S.take k) + s.size := by
  unfold bySz
  rw [List.take_add_one, h]
  simp
theorem bySz_le (S : List Sg) (k : Nat) : bySz (S.take k) ≤ bySz S := by
  unfold bySz
  have := List.take_append_drop k (S.map (·.size))
  rw [List.map_take]
  conv => rhs; rw [← this]
  rw [List.sum_append]
  omega
set_option maxHeartbeats 2000000 in
theorem bytes5 (g : Nat → Tg) (B D : Nat) (P : Option Addr) (pc : Nat) (l : List Gt) (S : List Sg) (w : World) (h : LgS w g B D P pc l S) (ok : SOk S) :
    Calls Tryz.prog 51 #[.pointer (some ⟨B, 0, none⟩)] w fun e w' => e = .returned (.int .i64 (bySz S : Int)) ∧ Hid (Below w.heap.size w w') := by
  have c0 := h.c0
  have c1 := h.c1
  have HU := hide (unmade5 c0)
  rw [h.n] at c1
  have HH := hide h
  have HZ : Hid (∀ k, bySz (S.take k) ≤ 9000000000000000000) := fun k => Nat.le_trans (bySz_le S k) ok.sz
  have hl6 := ok.len
  clear h ok c0
  go_enter Tryz.func51, Tryz.ntmps51
  go_wp2_with fail
  refine (unhide HU).mono ?_
  rintro e w1 ⟨rfl, rfl⟩
  clear HU
  go_wp2_with fail
  go_loopw [3, 13] (fun v i wr => ∃ k m : Nat, k ≤ S.length ∧ i = .int .i64 (k : Int) ∧ v = .int .i64 (m : Int) ∧ Hid (m = bySz (S.take k)) ∧ Hid (Below w1.heap.size w1 wr)) (fun _ i _ => S.length - (intOf i).toNat)
  case atStart => exact ⟨0, 0, Nat.zero_le _, rfl, rfl, rfl, Below.refl _ _⟩
  case round =>
    obtain ⟨k, m, hk, rfl, rfl, HM, HB⟩ := hrel
    by_cases hlt : k < S.length
    · have hlt' : (k : Int) < (S.length : Int) := by omega
      obtain ⟨t, s, G, _, hs, hP, _, d0, d1, d2, _⟩ := ((unhide HH).below (unhide HB)).at hlt
      subst hP
      have HM2 : Hid (m + s.size = bySz (S.take (k + 1))) := by show _ = _; rw [bySz_take S k s hs, unhide HM]
      have hm1 := unhide HZ k
      have hm2 := unhide HZ (k + 1)
      rw [← unhide HM] at hm1
      rw [← unhide HM2] at hm2
      have HB2 : Hid (Below w1.heap.size w1 (wr.alloc (.cells #[.int .i64 (s.first : Int), .slice t.v.1 s.recs.length t.v.2.2, .int .i64 (s.size : Int)] 122))) := (unhide HB).alloc (unhide HB).size _
      clear hs HM
      go_wp2_with fail
      go_roundw
      case rel => exact ⟨k + 1, m + s.size, by omega, by go_num, by go_num, HM2, HB2⟩
      case measure => simp [intOf]; omega
    · obtain rfl : k = S.length := by omega
      have HF : Hid (m = bySz S) := by have := unhide HM; rw [List.take_length] at this; exact this
      go_wp2_with fail
      go_ret
      exact ⟨by rw [unhide HF]; rfl, HB⟩
#print axioms bytes5
/-- A segment's records from a number on. -/
def frK (f n : Nat) (z : Int) : Nat := min (max z (f : Int) - (f : Int)).toNat n
set_option maxHeartbeats 2000000 in
theorem from5 (V f n c zz : Nat) (a a' : Option Addr) (z : Int) (w : World) (hr : w.heap[V]? = some (.cells #[.int .i64 (f : Int), .slice a n c, .int .i64 (zz : Int)] 122 (0, 0))) (hz0 : -9223372036854775808 ≤ z) (hz : z ≤ 9223372036854775807) (hf : f ≤ 9223372036854775807) (hn : n ≤ 9223372036854775807)
    (ht : ∀ w, (Instr.slice 84 (.slice a n c) (some (.int .i64 (frK f n z : Int))) none none).run Tryz.prog w = .ok (.slice a' (n - frK f n z) (c - frK f n z)) w) :
    Calls Tryz.prog 78 #[.pointer (some ⟨V, 0, none⟩), .int .i64 z] w fun e w' => e = .returned (.slice a' (n - frK f n z) (c - frK f n z)) ∧ Hid (Below w.heap.size w w') := by
  have c0 : w.cell? ⟨V, 0, none⟩ = some (.int .i64 (f : Int)) := cell_of_row _ _ _ _ _ _ hr
  have c1 : w.cell? ⟨V, 1, none⟩ = some (.slice a n c) := cell_of_row _ _ _ _ _ _ hr
  obtain ⟨y, hy⟩ : ∃ y : Nat, y = (max z (f : Int) - (f : Int)).toNat := ⟨_, rfl⟩
  have e1 : max z (f : Int) - (f : Int) = (y : Int) := by omega
  obtain ⟨x, hx⟩ : ∃ x : Int, x = max z (f : Int) := ⟨_, rfl⟩
  have hmx : max z (f : Int) = x := hx.symm
  have e2 : x - (f : Int) = (y : Int) := by rw [hx]; exact e1
  have e3 : IntKind.i64.wrap (x - (f : Int)) = (y : Int) := by rw [IntKind.wrap_i64]; omega
  obtain ⟨k, hk⟩ : ∃ k : Nat, k = frK f n z := ⟨_, rfl⟩
  have e4 : min (y : Int) (n : Int) = (k : Int) := by rw [hk, hy]; unfold frK; omega
  have e5 : (if z < (f : Int) then (f : Int) else z) = x := by rw [hx]; omega
  have e6 : (if (n : Int) < (y : Int) then (n : Int) else (y : Int)) = (k : Int) := by rw [← e4]; omega
  rw [← hk] at ht ⊢
  clear hy hx hk e1 hr
  go_enter Tryz.func78, Tryz.ntmps78
  go_upto_region 1 with fail
  go_quiet (fail)
  go_upto_region 2 with fail
  have d1 : (w.drewN nq).cell? ⟨V, 1, none⟩ = some (.slice a n c) := c1
  go_quiet (fail)
  go_wp2_with fail
  go_ret
  exact ⟨rfl, bdr (bdr (Below.refl _ _) _) _⟩
#print axioms from5
end Go.Proofs.YtmcgghjeocnpnaaGreatDoor
end
section
set_option linter.unusedVariables false
set_option maxRecDepth 1000000
namespace Go.Proofs.YtmcgghjeocnpnaaGreatDoor
open Go.RowKit Go.Maps

theorem from_eq (s : Sg) (z : Int) : s.from z = s.recs.drop (frK s.first s.recs.length z) := rfl
theorem from_len (s : Sg) (z : Int) : (s.from z).length ≤ s.recs.length := by rw [from_eq]; simp
theorem frS_take (S : List Sg) (z : Int) (k : Nat) (s : Sg) (h : S[k]? = some s) : frS (S.take (k + 1)) z = frS (S.take k) z ++ s.from z := by
  unfold frS
  rw [List.take_add_one, h]
  simp
theorem frS_len : ∀ (S : List Sg) (z : Int), (frS S z).length ≤ (S.flatMap (·.recs)).length
  | [], z => by simp [frS]
  | s :: S, z => by
    have h1 := frS_len S z
    have h2 := from_len s z
    simp only [frS, List.flatMap_cons, List.length_append] at h1 ⊢
    omega
theorem flat_take (S : List Sg) (k : Nat) : ((S.take k).flatMap (·.recs)).length ≤ (S.flatMap (·.recs)).length := by
  have := List.take_append_drop k S
  conv => rhs; rw [← this]
  rw [List.flatMap_append, List.length_append]
  omega
theorem frK_le (f n : Nat) (z : Int) : frK f n z ≤ n := Nat.min_le_right _ _
set_option maxHeartbeats 4000000 in
theorem read5 (g : Nat → Tg) (B D : Nat) (P : Option Addr) (pc : Nat) (l : List Gt) (S : List Sg) (z : Int) (w : World) (h : LgS w g B D P pc l S) (ok : SOk S) (hz0 : -9223372036854775808 ≤ z) (hz : z ≤ 9223372036854775807) :
    Calls Tryz.prog 49 #[.pointer (some ⟨B, 0, none⟩), .int .i64 z] w fun e w' => ∃ a c vs, e = .returned (.slice a vs.length c) ∧ Hid (OwnS w' w.heap.size a c vs) ∧ Hid (Pays w' w.heap.size vs (frS S z)) ∧ Hid (Below w.heap.size w w') := by
  have c0 := h.c0
  have c1 := h.c1
  have HU := hide (unmade5 c0)
  rw [h.n] at c1
  have HH := hide h
  have HOK := hide ok
  have hl6 := ok.len
  clear h ok c0
  go_enter Tryz.func49, Tryz.ntmps49
  go_wp2_with fail
  refine (unhide HU).mono ?_
  rintro e w0 ⟨rfl, rfl⟩
  clear HU
  go_wp2_with fail
  go_loopw [5, 17] (fun v i wr => ∃ (k : Nat) (a : Option Addr) (c : Nat) (vs : List Sl), k ≤ S.length ∧ i = .int .i64 (k : Int) ∧ v = .slice a vs.length c ∧ Hid (OwnS wr w0.heap.size a c vs) ∧ Hid (Pays wr w0.heap.size vs (frS (S.take k) z)) ∧ Hid (Below w0.heap.size w0 wr)) (fun _ i _ => S.length - (intOf i).toNat)
  case atStart => exact ⟨0, none, 0, [], Nat.zero_le _, rfl, rfl, OwnS.nil _ _, (Pays.nil _ _ : Pays w0 w0.heap.size [] []), Below.refl _ _⟩
  case round =>
    obtain ⟨k, a, c, vs, hk, rfl, rfl, HO, HP, HB⟩ := hrel
    by_cases hlt : k < S.length
    · have hlt' : (k : Int) < (S.length : Int) := by omega
      obtain ⟨t, s, G, ht, hs, hP, sg, e0, e1, e2, _⟩ := (unhide HH).at hlt
      subst hP
      have d0 : wr.cell? ⟨G, k * 3, none⟩ = some (.int .i64 (s.first : Int)) := by rw [(unhide HB).cell (World.block_lt_of_cell? w0 _ e0)]; exact e0
      have d1 : wr.cell? ⟨G, k * 3 + 1, none⟩ = some (.slice t.v.1 s.recs.length t.v.2.2) := by rw [(unhide HB).cell (World.block_lt_of_cell? w0 _ e1)]; exact e1
      have d2 : wr.cell? ⟨G, k * 3 + 2, none⟩ = some (.int .i64 (s.size : Int)) := by rw [(unhide HB).cell (World.block_lt_of_cell? w0 _ e2)]; exact e2
      clear e0 e1 e2
      obtain ⟨V, hV⟩ : ∃ V, V = wr.alloc (.cells #[.int .i64 (s.first : Int), .slice t.v.1 s.recs.length t.v.2.2, .int .i64 (s.size : Int)] 122) := ⟨_, rfl⟩
      have hbV : Below wr.heap.size wr V := by rw [hV]; exact (Below.refl _ _).alloc (Nat.le_refl _) _
      have hrV : V.heap[wr.heap.size]? = some (.cells #[.int .i64 (s.first : Int), .slice t.v.1 s.recs.length t.v.2.2, .int .i64 (s.size : Int)] 122 (0, 0)) := by rw [hV]; exact heap_alloc_new _ _
      have hsm := List.mem_of_getElem? hs
      have hnx := (unhide HOK).nx s hsm
      have hnx' : s.first + s.recs.length ≤ 9223372036854775807 := hnx
      obtain ⟨vr, ho0, hre⟩ := sg.vs
      obtain ⟨K, hK⟩ : ∃ K, K = frK s.first s.recs.length z := ⟨_, rfl⟩
      have hKle : K ≤ s.recs.length := by rw [hK]; exact frK_le _ _ _
      have hvn : s.recs.length = vr.length := hre.n.symm
      have hvc : s.recs.length ≤ t.v.2.2 := by
        rw [hvn]
        rcases ho0.cases with ⟨_, _, e⟩ | ⟨_, _, _, _, _, e, _⟩
        · rw [e]; simp
        · exact e
      obtain ⟨a', ht1, ht2⟩ := tailR t.v.1 s.recs.length t.v.2.2 K hKle hvc
      have HT2 := hide (ht2 w0 vr hvn ho0)
      have HFR : Hid (s.from z = s.recs.drop K) := by show _ = _; rw [from_eq, hK]
      have HF5 := hide (from5 wr.heap.size s.first s.recs.length t.v.2.2 s.size t.v.1 a' z V hrV hz0 hz (by omega) (by omega) (by rw [← hK]; exact ht1))
      rw [← hK] at HF5
      have HTK : Hid (frS (S.take (k + 1)) z = frS (S.take k) z ++ s.recs.drop K) := by show _ = _; rw [frS_take S z k s hs, from_eq, hK]
      have HBV : Hid (Below w0.heap.size w0 V) := (unhide HB).trans (hbV.mono (unhide HB).size)
      have HOV := hide ((unhide HO).below hbV (Nat.le_refl _))
      have HPV := hide ((unhide HP).below hbV (Nat.le_refl _))
      have HRL : Hid (∀ r ∈ s.recs, r.length ≤ 1000000) := (unhide HOK).rl s hsm
      have HRE := hide hre
      have HCN : Hid ((frS (S.take k) z ++ s.recs.drop K).length ≤ 1000000) := by
        show _ ≤ _
        rw [← unhide HTK]
        exact Nat.le_trans (frS_len _ z) (Nat.le_trans (flat_take S (k + 1)) (unhide HOK).rc)
      have hpl : vs.length = (frS (S.take k) z).length := (unhide HP).len
      have HPL := hide hpl
      obtain ⟨gv, hgv⟩ : ∃ gv, gv = wr.heap.size := ⟨_, rfl⟩
      rw [← hgv] at HF5
      have hvm : vs.length ≤ 1000000 := by
        rw [hpl]
        have := unhide HCN
        simp only [List.length_append] at this
        omega
      have HVN := hide hvn
      clear hrV hsm ht hs sg ho0 hre ht1 ht2 hK hvc hnx hnx' hpl hvn
      go_upto_region 7 with fail
      rw [← hV, ← hgv]
      clear hV hgv d0 d1 d2
      go_wp2_with fail
      refine (unhide HF5).mono ?_
      rintro e w2 ⟨rfl, HB2⟩
      have HBw2 : Hid (Below w0.heap.size w0 w2) := (unhide HBV).trans ((unhide HB2).mono (unhide HBV).size)
      have HOw2 := hide ((unhide HOV).below (unhide HB2) (Nat.le_refl _))
      have HPw2 := hide ((unhide HPV).below (unhide HB2) (Nat.le_refl _))
      obtain ⟨M, hM⟩ : ∃ M, M = s.recs.length - K := ⟨_, rfl⟩
      have HML : Hid (M = (s.recs.drop K).length) := by rw [hM]; show _ = _; simp
      rw [← hM]
      have hM6 : M ≤ 1000000 := by
        rw [unhide HML]
        have := unhide HCN
        simp only [List.length_append] at this
        omega
      have HP0 : Hid (Pays w2 w0.heap.size vs (frS (S.take k) z ++ (s.recs.drop K).take 0)) := by
        show Pays _ _ _ _
        rw [List.take_zero, List.append_nil]
        exact unhide HPw2
      clear HF5 HBV HOV HPV HB2 hbV hM HB HO HP HPw2
      go_wp2_with fail
      go_loopw [5, 24] (fun v i wr => ∃ (j : Nat) (a : Option Addr) (c : Nat) (vs : List Sl), j ≤ M ∧ i = .int .i64 (j : Int) ∧ v = .slice a vs.length c ∧ Hid (OwnS wr w0.heap.size a c vs) ∧ Hid (Pays wr w0.heap.size vs (frS (S.take k) z ++ (s.recs.drop K).take j)) ∧ Hid (Below w0.heap.size w0 wr)) (fun _ i _ => M - (intOf i).toNat)
      case atStart => exact ⟨0, a, c, vs, Nat.zero_le _, rfl, rfl, HOw2, HP0, HBw2⟩
      case round =>
        clear HP0 HOw2 HBw2 hvm
        obtain ⟨j, a2, c2, vs2, hj, rfl, rfl, HO2, HP2, HB2⟩ := hrel
        by_cases hjl : j < M
        · have hjl' : (j : Int) < (M : Int) := by omega
          have hjd : j < (s.recs.drop K).length := by rw [← unhide HML]; exact hjl
          have hjr : K + j < s.recs.length := by simp at hjd; omega
          obtain ⟨r, hr⟩ : ∃ r, s.recs[K + j]? = some r := ⟨_, List.getElem?_eq_getElem hjr⟩
          obtain ⟨x, hx⟩ : ∃ x, vr[K + j]? = some x := ⟨_, List.getElem?_eq_getElem (by rw [← unhide HVN]; exact hjr)⟩
          obtain ⟨x1, x2, _⟩ := (unhide HRE).at' (K + j) x r hx hr
          obtain ⟨b9, off9, hae, hcx⟩ := unhide HT2 (by intro e; have := congrArg List.length e; simp at this; have := unhide HVN; omega)
          subst hae
          have cx := hcx j x (by rw [List.getElem?_drop]; exact hx)
          rw [x1] at cx
          have cxr : wr.cell? ⟨b9, off9 + j, none⟩ = some (.slice x.1 r.length x.2.2) := by rw [(unhide HB2).cell (World.block_lt_of_cell? w0 _ cx)]; exact cx
          have hrl : r.length ≤ 1000000 := unhide HRL r (List.mem_of_getElem? hr)
          have HCL := hide (bclone_any x.1 r.length x.2.2 r wr (x2.below (unhide HB2) (Nat.le_refl _)) rfl (by omega))
          have HTJ : Hid ((s.recs.drop K).take (j + 1) = (s.recs.drop K).take j ++ [r]) := by
            show _ = _
            rw [List.take_add_one, List.getElem?_drop, hr]; rfl
          have hv2 : vs2.length ≤ 1000000 := by
            have h1 := (unhide HP2).len
            have h2 := unhide HCN
            rw [h1]
            simp only [List.length_append, List.length_take] at h2 ⊢
            omega
          clear hjd hjr hr hx x1 x2 hcx cx
          go_wp2_with fail
          refine (unhide HCL).mono ?_
          rintro e w3 ⟨a3, c3, r3, rfl, hr3, ho3, hb3⟩
          obtain rfl : r3 = r := unhide hr3
          have hW3 := (unhide HB2).trans (hb3.mono (unhide HB2).size)
          have ho' := (unhide HO2).below hb3 (Nat.le_refl _)
          have hp3 := (unhide HP2).snoc hb3 (unhide HB2).size ho3
          have HPN : Hid (Pays w3 w0.heap.size (vs2 ++ [(a3, r3.length, c3)]) (frS (S.take k) z ++ (s.recs.drop K).take (j + 1))) := by
            show Pays _ _ _ _
            rw [unhide HTJ, ← List.append_assoc]
            exact hp3
          have hw3s := hW3.size
          clear HCL hr3 ho3 hb3 hp3 HP2 HB2 HO2 cxr HTJ hrl
          go_wp2_with (at_builtin; refine wp_apps1 _ rfl _ _ rfl w0.heap.size a2 c2 vs2 rfl (ho'.alloc _) w3.heap.size 1 (a3, r3.length, c3) rfl (cell_lits _ _ _ _) ?c5 ?c6 ?_)
          case c5 => omega
          case c6 => first | omega | (simp; omega)
          intro a4 cap4 vs4 w4 hr4 ho4 hg4
          have HB4 : Hid (Below w0.heap.size w0 w4) := below_grown (hW3.alloc hW3.size _) hg4 (Nat.le_refl _) (fun k hk => (ho'.lt k hk).1)
          have hp4 := ((unhide HPN).alloc _).kept (ho'.alloc _) hg4
          rw [← unhide hr4] at hp4
          have HP4 := hide hp4
          have HO4 := hide ho4
          clear hr4 hg4 ho' HPN hW3 hp4 ho4 hw3s
          go_wp2_with fail
          go_roundw
          case rel => exact ⟨j + 1, a4, cap4, vs4, by omega, by go_num, rfl, HO4, HP4, HB4⟩
          case measure => simp [intOf]; omega
        · obtain rfl : j = M := by omega
          have HP5 : Hid (Pays wr w0.heap.size vs2 (frS (S.take (k + 1)) z)) := by
            show Pays _ _ _ _
            have h1 := unhide HP2
            rw [unhide HML, List.take_length, ← unhide HTK] at h1
            exact h1
          clear HP2
          go_wp2_with fail
          go_roundw
          case rel => exact ⟨k + 1, a2, c2, vs2, by omega, by go_num, rfl, HO2, HP5, HB2⟩
          case measure => simp [intOf]; omega
    · obtain rfl : k = S.length := by omega
      have HP2 : Hid (Pays wr w0.heap.size vs (frS S z)) := by have := unhide HP; rw [List.take_length] at this; exact this
      clear HP
      go_wp2_with fail
      go_ret
      exact ⟨a, c, vs, rfl, HO, HP2, HB⟩
#print axioms read5
end Go.Proofs.YtmcgghjeocnpnaaGreatDoor
end
section
set_option linter.unusedVariables false
set_option maxRecDepth 1000000
namespace Go.Proofs.YtmcgghjeocnpnaaGreatDoor
open Go.RowKit Go.Maps

theorem sls_box {w : World} {B : Nat} {t : Sl} (h : w.cell? ⟨B, 0, none⟩ = some (.slice t.1 t.2.1 t.2.2)) : ∀ j u, (sls [t])[j]? = some u → w.cell? ((⟨B, 0, none⟩ : Addr).add j) = some u := by
  intro j u hu
  have hj : j < 1 := by
    have := (List.getElem?_eq_some_iff.1 hu).1
    simpa [sls_length] using this
  obtain rfl : j = 0 := by omega
  rw [sls_get [t] 0 t (by simp)] at hu
  obtain rfl := Option.some.inj hu
  rw [addr_add]
  exact h
/-- append(s, p), s a row of slices: where the new row lies. -/
theorem wp_apps9 (w : World) {ops : Array Oper} {rest : List Oper} {o : Oper} {a : Act} {Q : Exit → Act → World → Prop} (hgd : o.guard = none) (s x : Operand)
    (ho : o.op = .call { callee := .builtin .append, args := #[s, x], argTypes := #[84, 84] })
    (a1 : Option Addr) (cap1 : Nat) (l1 : List Sl) (n1 : Nat) (hs : a.eval s = .slice a1 n1 cap1) (hn1 : n1 = l1.length) (hown : OwnS w 0 a1 cap1 l1)
    (B c2 : Nat) (t : Sl) (hx : a.eval x = .slice (some ⟨B, 0, none⟩) 1 c2) (hsrc : w.cell? ⟨B, 0, none⟩ = some (.slice t.1 t.2.1 t.2.2)) (hlen : l1.length ≤ 1000000)
    (h : ∀ g cap w', Hid (OwnS w' 0 (some ⟨g, 0, none⟩) cap (l1 ++ [t])) → Hid (w.grownBy w' (blk a1)) → Hid (blk a1 = some g ∨ g = w.heap.size) → wpList Tryz.prog ops Q rest (a.put o.dst (.slice (some ⟨g, 0, none⟩) (n1 + 1) cap)) w') : wpList Tryz.prog ops Q (o :: rest) a w := by
  subst hn1
  obtain ⟨i, hi, hz0, hz1, hz2⟩ := info_parts Tryz.infoS
  refine wpList_append_lies w hgd s x 84 ho 0 86 i _ 1 24 Tryz.underlying84 hi hz0 hz1 hz2 rfl (by decide) _ _ _ hs hown ⟨B, 0, none⟩ 1 c2 (sls [t]) hx (by simp [sls_length]) (sls_box hsrc) (sls_one [t]) (by decide) (by unfold maxLen; omega) (by omega) (Nat.zero_le _) _ rfl ?_
  intro g cap w' h1 h2 h3 h4
  rw [OwnA.ownBlock] at h2 h3
  refine h g cap w' ?_ h2 h3
  have e1 : l1.length + 1 = (l1 ++ [t]).length := by simp
  show OwnS _ _ _ _ _
  unfold OwnS
  rw [← e1, sls_append]
  exact h1
/-- What put leaves: the records' row has grown, two cells of the segment are new. -/
structure PutR (w w' : World) (G o zz k : Nat) (a : Option Addr) (vs : List Sl) (t : Sl) (R c : Nat) : Prop where
  ow : OwnS w' 0 (some ⟨R, 0, none⟩) c (vs ++ [t])
  loc : blk a = some R ∨ w.heap.size ≤ R
  row : ∀ cur T, w.heap[G]? = some (.cells cur T (0, 0)) → w'.heap[G]? = some (.cells ((cur.setIfInBounds (o + 1) (.slice (some ⟨R, 0, none⟩) (vs.length + 1) c)).setIfInBounds (o + 2) (.int .i64 ((zz + k : Nat) : Int))) T (0, 0))
  block : ∀ j, j < w.heap.size → j ≠ G → blk a ≠ some j → w'.heap[j]? = w.heap[j]?
  size : w.heap.size ≤ w'.heap.size
  os : w'.os = w.os
  tape : w'.tape = w.tape
  output : w'.output = w.output
theorem putR_mk {w w1 : World} {G o zz k n c9 : Nat} {a x : Option Addr} {vs : List Sl} {R c : Nat} (cur : Array Value) (T : TypeId) (hG : w.heap[G]? = some (.cells cur T (0, 0))) (hne : blk a ≠ some G)
    (h1 : OwnS w1 0 (some ⟨R, 0, none⟩) c (vs ++ [(x, n, c9)])) (hg : (w.alloc (.cells #[.slice x n c9] 86)).grownBy w1 (blk a)) (hl : blk a = some R ∨ R = (w.alloc (.cells #[.slice x n c9] 86)).heap.size) :
    PutR w ((w1.setCell ⟨G, o + 1, none⟩ (.slice (some ⟨R, 0, none⟩) (vs.length + 1) c)).setCell ⟨G, o + 2, none⟩ (.int .i64 ((zz + k : Nat) : Int))) G o zz k a vs (x, n, c9) R c := by
  have hGl := (Array.getElem?_eq_some_iff.1 hG).1
  have hb1 : Below w.heap.size w (w.alloc (.cells #[.slice x n c9] 86)) := (Below.refl _ _).alloc (Nat.le_refl _) _
  have hk : ∀ j, j ≠ G → ((w1.setCell ⟨G, o + 1, none⟩ (.slice (some ⟨R, 0, none⟩) (vs.length + 1) c)).setCell ⟨G, o + 2, none⟩ (.int .i64 ((zz + k : Nat) : Int))).heap[j]? = w1.heap[j]? := fun j hj => by
    rw [Below.heap_setCell _ ⟨G, o + 2, none⟩ _ j hj, Below.heap_setCell _ ⟨G, o + 1, none⟩ _ j hj]
  have hw1 : ∀ j, j < w.heap.size → blk a ≠ some j → w1.heap[j]? = w.heap[j]? := fun j hj hne => (hg.block j (Nat.lt_of_lt_of_le hj hb1.size) (fun e => hne e.symm)).trans (hb1.block j hj)
  have hRG : R ≠ G := by
    rcases hl with h | h
    · intro e; exact hne (by rw [h, e])
    · have := hb1.size; omega
  refine ⟨h1.same9 (fun j hj => hk j (by simp [blk] at hj; omega)), ?_, fun cur2 T2 h2 => ?_, fun j hj hjG hja => (hk j hjG).trans (hw1 j hj hja), ?_, ?_, ?_, ?_⟩
  · rcases hl with h | h
    · exact .inl h
    · right; have := hb1.size; omega
  · have h3 := (hw1 G hGl hne).trans h2
    rw [heap_setCell_same _ _ _ _ _ _ (heap_setCell_same _ _ _ _ _ _ h3)]
  · have h4 : w.heap.size ≤ w1.heap.size := Nat.le_trans hb1.size hg.size
    simpa [World.setCell] using h4
  · exact hg.os.trans hb1.os
  · exact hg.tape.trans hb1.tape
  · exact hg.output.trans hb1.output
set_option maxHeartbeats 2000000 in
theorem put5 (G o zz k n c0 c9 : Nat) (a x : Option Addr) (vs : List Sl) (cur : Array Value) (T : TypeId) (w : World) (hG : w.heap[G]? = some (.cells cur T (0, 0))) (h1 : w.cell? ⟨G, o + 1, none⟩ = some (.slice a vs.length c0)) (h2 : w.cell? ⟨G, o + 2, none⟩ = some (.int .i64 (zz : Int))) (ho : OwnS w 0 a c0 vs) (hne : blk a ≠ some G) (hv : vs.length ≤ 1000000) (hz : zz + k ≤ 9000000000000000000) :
    Calls Tryz.prog 65 #[.pointer (some ⟨G, o, none⟩), .slice x n c9, .int .i64 (k : Int)] w fun e w' => e = .returned (.tuple #[]) ∧ Hid (∃ R c, PutR w w' G o zz k a vs (x, n, c9) R c) := by
  have HO : Hid (OwnS (w.alloc (.cells #[.slice x n c9] 86)) 0 a c0 vs) := ho.alloc _
  have HG := hide hG
  have hGl := (Array.getElem?_eq_some_iff.1 hG).1
  have f1 := frozen_of_row w G (o + 1) _ _ hG
  have HNE := hide hne
  have HF : Hid (∀ w1 : World, (w.alloc (.cells #[.slice x n c9] 86)).grownBy w1 (blk a) → (∀ j, w1.frozen? ⟨G, j, none⟩ = false) ∧ (∀ p, w1.cell? ⟨G, p, none⟩ = w.cell? ⟨G, p, none⟩)) := fun w1 hg => by
    have hb1 : Below w.heap.size w (w.alloc (.cells #[.slice x n c9] 86)) := (Below.refl _ _).alloc (Nat.le_refl _) _
    have e := (hg.block G (Nat.lt_of_lt_of_le hGl hb1.size) (fun e => hne e.symm)).trans (hb1.block G hGl)
    exact ⟨fun j => frozen_of_row w1 G j _ _ (e.trans hG), fun p => World.cell?_of_block (w := w) e⟩
  clear hG ho hne hGl
  go_enter Tryz.func65, Tryz.ntmps65
  go_wp2_with (at_builtin; refine wp_apps9 _ rfl _ _ rfl a c0 vs vs.length rfl rfl (unhide HO) w.heap.size 1 (x, n, c9) rfl (cell_lits _ _ _ _) hv ?_; intro R c w1 HO1 HG1 HL1; have k1 : w1.cell? ⟨G, o + 1, none⟩ = some (.slice a vs.length c0) := by { rw [(unhide HF w1 (unhide HG1)).2]; exact h1 }; have k2 : w1.cell? ⟨G, o + 2, none⟩ = some (.int .i64 (zz : Int)) := by { rw [(unhide HF w1 (unhide HG1)).2]; exact h2 }; have g1 := (unhide HF w1 (unhide HG1)).1 (o + 1); have g2 := (unhide HF w1 (unhide HG1)).1 (o + 2))
  go_end0
  refine ⟨rfl, R, c, ?_⟩
  rw [← Int.natCast_add]
  exact putR_mk cur T (unhide HG) (unhide HNE) (unhide HO1) (unhide HG1) (unhide HL1)
#print axioms put5
end Go.Proofs.YtmcgghjeocnpnaaGreatDoor
end
section
set_option linter.unusedVariables false
set_option maxRecDepth 1000000
namespace Go.Proofs.YtmcgghjeocnpnaaGreatDoor
open Go.RowKit Go.Maps

theorem tg01 {t : Tg} (h : t.of 1) : ¬ t.of 0 := by cases t <;> simp [Tg.of] at h ⊢ <;> omega
theorem tg10 {t : Tg} (h : t.of 0) : ¬ t.of 1 := by cases t <;> simp [Tg.of] at h ⊢ <;> omega
theorem LW.st2 {w0 w w' : World} {g g' : Nat → Tg} {X : Tg → Prop} (h : LW w0 w g) (x : St w w' g g' X) (hX : ¬ X .o) : LW w0 w' g' :=
  ⟨x.below h.below h.below.size (fun k hk e => by rw [h.bas k hk] at e; exact hX e), fun k hk => (x.ag k (Nat.lt_of_lt_of_le hk h.below.size)).trans (h.bas k hk)⟩
/-- Those blocks that a log's calls may write. -/
abbrev X01 : Tg → Prop := fun t => t.of 0 ∨ t.of 1
theorem x01o : ¬ X01 .o := by rintro (h | h) <;> exact h
theorem DK.keep1 {w w' : World} {g g' : Nat → Tg} {D : Nat} {M : Md} {N : Nat} (h : DK w g 0 D M N) (x : St w w' g g' (fun t => t.of 1)) : DK w' g' 0 D M N := h.st x (by omega)
/-- What a call on a log leaves. -/
def RL (w w' : World) (g : Nat → Tg) (B D : Nat) (M : Md) (N : Nat) (S : List Sg) : Prop := ∃ g' P pc l, LgS w' g' B D P pc l S ∧ DK w' g' 0 D M N ∧ St w w' g g' X01
theorem RL.disk {w w' : World} {g : Nat → Tg} {B D : Nat} {P : Option Addr} {pc : Nat} {l : List Gt} {S : List Sg} {M' : Md} {N' : Nat} (h : LgS w g B D P pc l S) (x : RK w w' g 0 D M' N') : RL w w' g B D M' N' S := by
  obtain ⟨g', hd, st⟩ := x
  exact ⟨g', P, pc, l, h.keep st (fun t h1 h0 => tg01 h1 h0), hd, st.mono (fun t ht => .inl ht)⟩
theorem RL.same {w w' : World} {g : Nat → Tg} {B D : Nat} {P : Option Addr} {pc : Nat} {l : List Gt} {S : List Sg} {M : Md} {N : Nat} (h : LgS w g B D P pc l S) (hd : DK w g 0 D M N) (hb : Below w.heap.size w w') : RL w w' g B D M N S :=
  ⟨g, P, pc, l, h.below hb, hd.below hb, St.ofBelow g _ hb⟩
theorem RL.from {w w1 w' : World} {g g1 : Nat → Tg} {B D : Nat} {S : List Sg} {M : Md} {N : Nat} (x : St w w1 g g1 X01) (h : RL w1 w' g1 B D M N S) : RL w w' g B D M N S := by
  obtain ⟨g', P, pc, l, h1, h2, h3⟩ := h
  exact ⟨g', P, pc, l, h1, h2, x.trans h3⟩
theorem DK.monoN {w : World} {g : Nat → Tg} {i D : Nat} {M : Md} {N N' : Nat} (h : DK w g i D M N) (hN : N ≤ N') : DK w g i D M N' := by
  obtain ⟨J, h1, h2, h3⟩ := h
  exact ⟨J, h1, h2.mono hN, h3⟩
theorem RL.monoN {w w' : World} {g : Nat → Tg} {B D : Nat} {S : List Sg} {M : Md} {N N' : Nat} (h : RL w w' g B D M N S) (hN : N ≤ N') : RL w w' g B D M N' S := by
  obtain ⟨g', P, pc, l, h1, h2, h3⟩ := h
  exact ⟨g', P, pc, l, h1, h2.monoN hN, h3⟩
/-- put on the last segment. -/
theorem LgS.put {w w' : World} {g : Nat → Tg} {B D : Nat} {pc G : Nat} {l : List Gt} {S : List Sg} {n k : Nat} {t : Gt} {s : Sg} {x : Option Addr} {xc R c : Nat} {r : List UInt8} {vs : List Sl} (h : LgS w g B D (some ⟨G, 0, none⟩) pc l S) (hn : S.length = n + 1) (ht : l[n]? = some t) (hs : S[n]? = some s)
    (hvs : OwnS w 0 t.v.1 t.v.2.2 vs) (hre : Recs w g vs s.recs) (hap : ∀ i u, i < n → S[i]? = some u → u.first ≠ s.first)
    (hx : Bs w x xc r) (hxt : ∀ j, blk x = some j → j < w.heap.size ∧ g j = .s 1) (hp : PutR w w' G (n * 3) s.size k t.v.1 vs (x, r.length, xc) R c) :
    ∃ g' l', LgS w' g' B D (some ⟨G, 0, none⟩) pc l' (S.take n ++ [s.put r k]) ∧ St w w' g g' (fun t => t.of 1) := by
  have hln : l.length = n + 1 := by rw [h.n, hn]
  have sg := h.sg n t s ht hs
  have hGt : g G = .p 1 := h.gP G rfl
  have hGB : G ≠ B := fun e => by have := h.gB; rw [← e, hGt] at this; cases this
  have hGlt : G < w.heap.size := h.ow.lt G rfl
  let g' : Nat → Tg := fun b => if b < w.heap.size then g b else tgR s.first
  have hg' : ∀ b, b < w.heap.size → g' b = g b := fun b hb => if_pos hb
  have hgR : g' R = tgR s.first := by
    rcases hp.loc with e | e
    · have := (hvs.lt R e).2
      rw [hg' R this]; exact sg.gr R e
    · exact if_neg (by omega)
  have hst : St w w' g g' (fun t => t.of 1) := ⟨hp.os, hp.tape, hp.output, hp.size, fun j hj hnot => hp.block j hj (fun e => hnot (by rw [e, hGt]; rfl)) (fun e => hnot (by rw [sg.gr j e]; rfl)), fun j hj => hg' j hj⟩
  -- blocks that are neither the row of segments nor the last one's records
  have hblk : ∀ j, j < w.heap.size → j ≠ G → g j ≠ tgR s.first → w'.heap[j]? = w.heap[j]? := fun j hj hjG hjt => hp.block j hj hjG (fun e => hjt (sg.gr j e))
  refine ⟨g', l.set n ⟨t.f, (some ⟨R, 0, none⟩, vs.length + 1, c), s.size + k⟩, ⟨?_, (hg' B h.lt).trans h.gB, fun j hj => ?_, ?_, ?_, fun i u v hu hv => ?_⟩, hst⟩
  · rw [hblk B h.lt (Ne.symm hGB) (by rw [h.gB]; intro e; cases e), h.st, List.length_set]
  · simp [blk] at hj; subst hj; exact (hg' _ hGlt).trans hGt
  · rcases h.ow.2 with ⟨hv, _⟩ | ⟨b, cap', cur, hv, hbb, hgg, hle, hm, hsz, htk⟩
    · cases hv
    · simp only [Value.slice.injEq, Option.some.injEq, Addr.mk.injEq, and_true, true_and] at hv
      obtain ⟨rfl, rfl⟩ := hv
      have hrow := hp.row cur _ hgg
      have o1 := h.ow.setAt n 1 t ⟨t.f, (some ⟨R, 0, none⟩, vs.length + 1, c), t.z⟩ ht (by omega) (.slice (some ⟨R, 0, none⟩) (vs.length + 1) c) (fun j hj => by
        match j, hj with
        | 0, _ => rfl
        | 1, _ => rfl
        | 2, _ => rfl)
      have o2 := o1.setAt n 2 ⟨t.f, (some ⟨R, 0, none⟩, vs.length + 1, c), t.z⟩ ⟨t.f, (some ⟨R, 0, none⟩, vs.length + 1, c), s.size + k⟩ (by rw [List.getElem?_set_self (by omega)]) (by omega) (.int .i64 ((s.size + k : Nat) : Int)) (fun j hj => by
        match j, hj with
        | 0, _ => rfl
        | 1, _ => rfl
        | 2, _ => rfl)
      rw [List.set_set] at o2
      refine o2.same (fun j hj => ?_)
      simp [blk] at hj
      subst hj
      rw [hrow, heap_setCell_same _ _ _ _ _ _ (heap_setCell_same _ _ _ _ _ _ hgg)]
  · simp [hln, hn]
  · by_cases hi : i < n
    · rw [List.getElem?_set_ne (by omega)] at hu
      rw [List.getElem?_append_left (by simp; omega), List.getElem?_take, if_pos hi] at hv
      have sgi := h.sg i u v hu hv
      obtain ⟨vi, a1, a2⟩ := sgi.vs
      have hne : v.first ≠ s.first := hap i v hi hv
      refine ⟨sgi.f, sgi.z, sgi.n, ⟨vi, a1.same9 (fun j hj => hblk j (a1.lt j hj).2 (fun e => ?_) (fun e => ?_)), ⟨a2.n, fun j y q h1 h2 => ?_⟩⟩, fun j hj => (hg' j (a1.lt j hj).2).trans (sgi.gr j hj)⟩
      · have := sgi.gr j hj; rw [e, hGt] at this; cases this
      · have := sgi.gr j hj; rw [e] at this; exact hne (tgR_inj this.symm)
      · obtain ⟨b1, b2, b3⟩ := a2.at' j y q h1 h2
        exact ⟨b1, b2.same9 (fun m hm => hblk m (b3 m hm).1 (fun e => by have := (b3 m hm).2; rw [e, hGt] at this; cases this) (fun e => by have := (b3 m hm).2; rw [e] at this; cases this)), fun m hm => ⟨Nat.lt_of_lt_of_le (b3 m hm).1 hp.size, (hg' m (b3 m hm).1).trans (b3 m hm).2⟩⟩
    · have hi2 : i = n := by
        have := (List.getElem?_eq_some_iff.1 hu).1
        simp at this
        omega
      subst hi2
      rw [List.getElem?_set_self (by omega)] at hu
      rw [List.getElem?_append_right (by simp; omega)] at hv
      have hv2 : s.put r k = v := by
        have e : i - (S.take i).length = 0 := by simp; omega
        rw [e] at hv
        simpa using hv
      subst hv2
      obtain rfl := Option.some.inj hu
      have hvl : vs.length = s.recs.length := hre.n
      refine ⟨sg.f, rfl, by show vs.length + 1 = _; simp [Sg.put, hvl], ⟨vs ++ [(x, r.length, xc)], hp.ow, ⟨by simp [Sg.put, hvl], fun j y q h1 h2 => ?_⟩⟩, fun j hj => by simp [blk] at hj; subst hj; exact hgR⟩
      have hbx : ∀ (y : Option Addr) (yc : Nat) (q : List UInt8), Bs w y yc q → (∀ m, blk y = some m → m < w.heap.size ∧ g m = .s 1) → Bs w' y yc q ∧ ∀ m, blk y = some m → m < w'.heap.size ∧ g' m = .s 1 := fun y yc q hb hm => ⟨hb.same9 (fun m e => hblk m (hm m e).1 (fun e2 => by have := (hm m e).2; rw [e2, hGt] at this; cases this) (fun e2 => by have := (hm m e).2; rw [e2] at this; cases this)), fun m e => ⟨Nat.lt_of_lt_of_le (hm m e).1 hp.size, (hg' m (hm m e).1).trans (hm m e).2⟩⟩
      have h2' : (s.recs ++ [r])[j]? = some q := h2
      by_cases hj : j < vs.length
      · rw [List.getElem?_append_left hj] at h1
        rw [List.getElem?_append_left (by omega)] at h2'
        obtain ⟨b1, b2, b3⟩ := hre.at' j y q h1 h2'
        exact ⟨b1, (hbx y.1 y.2.2 q b2 b3).1, (hbx y.1 y.2.2 q b2 b3).2⟩
      · have hj2 := (List.getElem?_eq_some_iff.1 h1).1
        simp at hj2
        obtain rfl : j = vs.length := by omega
        rw [List.getElem?_append_right (Nat.le_refl _), Nat.sub_self] at h1
        rw [hvl, List.getElem?_append_right (Nat.le_refl _), Nat.sub_self] at h2'
        simp at h1 h2'
        subst h1
        subst h2'
        exact ⟨rfl, (hbx x xc r hx hxt).1, (hbx x xc r hx hxt).2⟩
#print axioms LgS.put
end Go.Proofs.YtmcgghjeocnpnaaGreatDoor
end
section
set_option linter.unusedVariables false
set_option maxRecDepth 1000000
namespace Go.Proofs.YtmcgghjeocnpnaaGreatDoor
open Go.RowKit Go.Maps

def syE (M : Md) (S : List Sg) : Int := match S.getLast? with | some s => M.thereE (nmS s.first) | none => 0
def syM (M : Md) (S : List Sg) : Md := match S.getLast? with | some s => M.sync (nmS s.first) | none => M
theorem RK.cells {w w' : World} {g : Nat → Tg} {D : Nat} {M' : Md} {N' : Nat} (x : RK w w' g 0 D M' N') {p : Addr} {v : Value} (h : w.cell? p = some v) (hg : (g p.block).of 1) : w'.cell? p = some v := by
  obtain ⟨g', hd, st⟩ := x
  exact st.cell h (fun e => tg01 hg e)
theorem nm_max (n : Nat) (h : n ≤ 9223372036854775807) : (nmS n).length ≤ maxLen := by rw [nmS_len n h]; unfold maxLen; omega
set_option maxHeartbeats 4000000 in
theorem sync5 (w0 : World) (g : Nat → Tg) (B D : Nat) (P : Option Addr) (pc : Nat) (l : List Gt) (S : List Sg) (M : Md) (N : Nat) (w : World) (hE : EnvS w0) (hL : LW w0 w g) (h : LgS w g B D P pc l S) (hd : DK w g 0 D M N) (ok : SOk S) (hN : N ≤ 1400) :
    Calls Tryz.prog 55 #[.pointer (some ⟨B, 0, none⟩)] w fun e w' => e = .returned (.int .i64 (syE M S)) ∧ Hid (RL w w' g B D (syM M S) (N + 1) S) := by
  have c0 := h.c0
  have c1 := h.c1
  have HU := hide (unmade5 c0)
  rw [h.n] at c1
  by_cases h0 : S.length = 0
  · have hS : S = [] := List.eq_nil_of_length_eq_zero h0
    rw [h0] at c1
    have HLA := hide (last_nil c1)
    have HF : Hid (syE M S = 0 ∧ RL w w g B D (syM M S) (N + 1) S) := by subst hS; exact ⟨rfl, (RL.same h hd (Below.refl _ _)).monoN (by omega)⟩
    generalize syE M S = X at *
    generalize syM M S = Y at *
    clear c1 h hd ok hS h0
    go_enter Tryz.func55, Tryz.ntmps55
    go_wp2_with fail
    refine (unhide HU).mono ?_
    rintro e w1 ⟨rfl, hw1⟩
    have hw2 := hw1.symm
    subst hw2
    clear hw1
    go_wp2_with fail
    refine (unhide HLA).mono ?_
    rintro e w1 ⟨rfl, hw1⟩
    have hw2 := hw1.symm
    subst hw2
    clear hw1
    go_wp2_with fail
    go_ret
    exact ⟨by rw [(unhide HF).1]; rfl, (unhide HF).2⟩
  · obtain ⟨n, hn⟩ : ∃ n, S.length = n + 1 := ⟨S.length - 1, by omega⟩
    obtain ⟨t, s, G, _, hs, rfl, _, d0, _, _, _⟩ := h.at (i := n) (by omega)
    have hnx : s.first + s.recs.length ≤ 9223372036854775807 := ok.nx s (List.mem_of_getElem? hs)
    have hfm : s.first ≤ 9223372036854775807 := by omega
    rw [hn] at c1
    have hn6 : n ≤ 1000000 := by have := ok.len; omega
    have HLA := hide (last_cons c1 hn6)
    have HX : Hid (syE M S = M.thereE (nmS s.first) ∧ syM M S = M.sync (nmS s.first)) := by
      have e : S.getLast? = some s := by rw [getLast_at S n hn, hs]
      refine ⟨?_, ?_⟩
      · unfold syE; rw [e]
      · unfold syM; rw [e]
    have HBL : Hid (B < w.heap.size) := h.lt
    have HGL : Hid (G < w.heap.size) := World.block_lt_of_cell? w _ d0
    have HH := hide h
    have HNO : Hid (∀ v, Below w.heap.size w v → Calls Tryz.prog 88 #[.int .i64 (s.first : Int)] v fun e v' => e = .returned (.string (str (nmS s.first))) ∧ Hid (Below v.heap.size v v')) := fun v hb => nameOf_any s.first v hfm (hE.below (hL.below.trans (hb.mono hL.below.size)) (Nat.le_refl _))
    have HSY : Hid (∀ v, Below w.heap.size w v → Calls Tryz.prog 87 #[.pointer (some ⟨D, 0, none⟩), .string (str (nmS s.first))] v fun e v' => e = .returned (.int .i64 (M.thereE (nmS s.first))) ∧ Hid (RK v v' g 0 D (M.sync (nmS s.first)) (N + 1))) := fun v hb => sync_k g 0 D M N (nmS s.first) v (hd.below hb) hN (nm_max _ hfm)
    have HST2 : Hid (∀ {v : World} v', RK v v' g 0 D (M.sync (nmS s.first)) (N + 1) → Below w.heap.size w v → v'.cell? ⟨B, 0, none⟩ = some (.pointer (some ⟨D, 0, none⟩)) ∧ v'.cell? ⟨G, n * 3, none⟩ = some (.int .i64 (s.first : Int))) := fun {v} v' x hb => ⟨x.cells (by rw [hb.cell h.lt]; exact c0) (by rw [h.gB]; rfl), x.cells (by rw [hb.cell (World.block_lt_of_cell? w _ d0)]; exact d0) (by rw [h.gP G rfl]; rfl)⟩
    generalize syE M S = X at *
    generalize syM M S = Y at *
    clear c1 h hd ok hs hn h0 hnx hE hL
    go_enter Tryz.func55, Tryz.ntmps55
    go_wp2_with fail
    refine (unhide HU).mono ?_
    rintro e w1 ⟨rfl, hw1⟩
    have hw2 := hw1.symm
    subst hw2
    clear hw1
    go_wp2_with fail
    refine (unhide HLA).mono ?_
    rintro e v1 ⟨rfl, HBv1⟩
    have k0v1 : v1.cell? ⟨B, 0, none⟩ = some (.pointer (some ⟨D, 0, none⟩)) := by rw [(unhide HBv1).cell (unhide HBL)]; exact c0
    have k1v1 : v1.cell? ⟨G, n * 3, none⟩ = some (.int .i64 (s.first : Int)) := by rw [(unhide HBv1).cell (unhide HGL)]; exact d0
    clear HLA
    go_upto_region 6 with fail
    refine wp_region_held_drew (S := fun w' => w'.cell? ⟨B, 0, none⟩ = some (.pointer (some ⟨D, 0, none⟩)) ∧ w'.cell? ⟨G, n * 3, none⟩ = some (.int .i64 (s.first : Int))) (by kernel_rfl) (And.intro k0v1 k1v1) (fun hHeld => ?_)
    refine wpAnyH_take (i := 0) (oi := ?_) (v := ?_) ?_ (by kernel_rfl) ?_ ?_ ?_ ?_ hHeld ?_
    rotate_left 2
    · (simp only [List.getElem?_toArray, List.getElem?_cons_zero]) <;> with_reducible rfl
    · kernel_rfl
    · kernel_rfl
    · exact fun _ _ _ h => h
    · exact Or.inl ⟨by rfl, by (intro w hSw; (try dsimp only at hSw); go_simp <;> with_reducible rfl)⟩
    simp only [Act.put, List.setIfInBounds_toArray, List.set_cons_zero, List.set_cons_succ]
    refine wpAnyH_take (i := 1) (oi := ?_) (v := ?_) ?_ (by kernel_rfl) ?_ ?_ ?_ ?_ hHeld ?_
    rotate_left 2
    · (simp only [List.getElem?_toArray, List.getElem?_cons_succ, List.getElem?_cons_zero]) <;> with_reducible rfl
    · kernel_rfl
    · kernel_rfl
    · exact fun _ _ _ h => h
    · exact Or.inl ⟨by rfl, by (intro w hSw; (try dsimp only at hSw); go_simp <;> with_reducible rfl)⟩
    simp only [Act.put, List.setIfInBounds_toArray, List.set_cons_zero, List.set_cons_succ]
    refine wpAnyH_take (i := 2) (oi := ?_) (v := ?_) ?_ (by kernel_rfl) ?_ ?_ ?_ ?_ hHeld ?_
    rotate_left 2
    · (simp only [List.getElem?_toArray, List.getElem?_cons_succ, List.getElem?_cons_zero]) <;> with_reducible rfl
    · kernel_rfl
    · kernel_rfl
    · exact fun _ _ _ h => h
    · exact Or.inl ⟨by rfl, by (intro w hSw; (try dsimp only at hSw); go_simp <;> with_reducible rfl)⟩
    simp only [Act.put, List.setIfInBounds_toArray, List.set_cons_zero, List.set_cons_succ]
    refine wpAnyH_take (i := 3) (oi := ?_) (v := ?_) ?_ (by kernel_rfl) ?_ ?_ ?_ ?_ hHeld ?_
    rotate_left 2
    · (simp only [List.getElem?_toArray, List.getElem?_cons_succ, List.getElem?_cons_zero]) <;> with_reducible rfl
    · kernel_rfl
    · kernel_rfl
    · exact fun _ _ _ h => h
    · exact Or.inl ⟨by rfl, by (intro w hSw; (try dsimp only at hSw); go_simp <;> with_reducible rfl)⟩
    simp only [Act.put, List.setIfInBounds_toArray, List.set_cons_zero, List.set_cons_succ]
    refine wpAnyH_take (i := 4) (oi := ?_) (v := ?_) ?_ (by kernel_rfl) ?_ ?_ ?_ ?_ hHeld ?_
    rotate_left 2
    · (simp only [List.getElem?_toArray, List.getElem?_cons_succ, List.getElem?_cons_zero]) <;> with_reducible rfl
    · kernel_rfl
    · kernel_rfl
    · exact fun _ _ _ h => h
    · exact Or.inl ⟨by rfl, by (intro w hSw; (try dsimp only at hSw); go_simp <;> with_reducible rfl)⟩
    simp only [Act.put, List.setIfInBounds_toArray, List.set_cons_zero, List.set_cons_succ]
    refine wpAnyH_take (i := 5) (oi := ?_) (v := ?_) ?_ (by kernel_rfl) ?_ ?_ ?_ ?_ hHeld ?_
    rotate_left 2
    · (simp only [List.getElem?_toArray, List.getElem?_cons_succ, List.getElem?_cons_zero]) <;> with_reducible rfl
    · kernel_rfl
    · kernel_rfl
    · exact fun _ _ _ h => h
    · exact Or.inl ⟨by rfl, by (intro w hSw; (try dsimp only at hSw); go_simp <;> with_reducible rfl)⟩
    simp only [Act.put, List.setIfInBounds_toArray, List.set_cons_zero, List.set_cons_succ]
    refine wpAnyH_take (i := 6) (oi := ?_) (v := ?_) ?_ (by kernel_rfl) ?_ ?_ ?_ ?_ hHeld ?_
    rotate_left 2
    · (simp only [List.getElem?_toArray, List.getElem?_cons_succ, List.getElem?_cons_zero]) <;> with_reducible rfl
    · kernel_rfl
    · kernel_rfl
    · exact fun _ _ _ h => h
    · exact Or.inl ⟨by rfl, by (intro w hSw; (try dsimp only at hSw); go_simp <;> with_reducible rfl)⟩
    simp only [Act.put, List.setIfInBounds_toArray, List.set_cons_zero, List.set_cons_succ]
    refine wpAnyH_take (i := 7) (oi := ?_) (v := ?_) ?_ (by kernel_rfl) ?_ ?_ ?_ ?_ hHeld ?_
    rotate_left 2
    · (simp only [List.getElem?_toArray, List.getElem?_cons_succ, List.getElem?_cons_zero]) <;> with_reducible rfl
    · kernel_rfl
    · kernel_rfl
    · exact fun _ _ _ h => h
    · exact Or.inl ⟨by rfl, by (intro w hSw; (try dsimp only at hSw); go_simp <;> with_reducible rfl)⟩
    simp only [Act.put, List.setIfInBounds_toArray, List.set_cons_zero, List.set_cons_succ]
    refine wpAnyH_ready (rs := [8]) (by kernel_rfl) (by simp) (AllReadyH.cons (o := ?_) ?_ (fun K hK => ?_) AllReadyH.nil)
    rotate_left 1
    · (simp only [List.getElem?_toArray, List.getElem?_cons_succ, List.getElem?_cons_zero]) <;> with_reducible rfl
    go_simp
    refine (unhide HNO _ (unhide HBv1).drew).mono ?_
    rintro e x1 ⟨rfl, HBx1'⟩
    have HBx1 : Hid (Below w.heap.size w x1) := (unhide HBv1).drew.trans ((unhide HBx1').mono (unhide HBv1).size)
    have k0x1 : x1.cell? ⟨B, 0, none⟩ = some (.pointer (some ⟨D, 0, none⟩)) := by rw [(unhide HBx1).cell (unhide HBL)]; exact c0
    have k1x1 : x1.cell? ⟨G, n * 3, none⟩ = some (.int .i64 (s.first : Int)) := by rw [(unhide HBx1).cell (unhide HGL)]; exact d0
    clear HBx1' hHeld
    refine hK.out _ _ (And.intro k0x1 k1x1) (fun hHeld => ?_)
    clear hK K
    try simp only [Act.put, List.setIfInBounds_toArray, List.set_cons_zero, List.set_cons_succ]
    refine wpAnyH_ready (rs := [9]) (by kernel_rfl) (by simp) (AllReadyH.cons (o := ?_) ?_ (fun K hK => ?_) AllReadyH.nil)
    rotate_left 1
    · (simp only [List.getElem?_toArray, List.getElem?_cons_succ, List.getElem?_cons_zero]) <;> with_reducible rfl
    go_simp
    refine (unhide HSY _ (unhide HBx1)).mono ?_
    rintro e x2 ⟨rfl, HRK⟩
    have HR2 : Hid (RL w x2 g B D (M.sync (nmS s.first)) (N + 1) S) := RL.from (St.ofBelow g X01 (unhide HBx1)) (RL.disk ((unhide HH).below (unhide HBx1)) (unhide HRK))
    have k0x2 : x2.cell? ⟨B, 0, none⟩ = some (.pointer (some ⟨D, 0, none⟩)) := (unhide HST2 x2 (unhide HRK) (unhide HBx1)).1
    have k1x2 : x2.cell? ⟨G, n * 3, none⟩ = some (.int .i64 (s.first : Int)) := (unhide HST2 x2 (unhide HRK) (unhide HBx1)).2
    clear HRK hHeld
    refine hK.out _ _ (And.intro k0x2 k1x2) (fun hHeld => ?_)
    clear hK K
    try simp only [Act.put, List.setIfInBounds_toArray, List.set_cons_zero, List.set_cons_succ]
    refine wpAnyH_take (i := 10) (oi := ?_) (v := ?_) ?_ (by kernel_rfl) ?_ ?_ ?_ ?_ hHeld ?_
    rotate_left 2
    · (simp only [List.getElem?_toArray, List.getElem?_cons_succ, List.getElem?_cons_zero]) <;> with_reducible rfl
    · kernel_rfl
    · kernel_rfl
    · exact fun _ _ _ h => h
    · exact Or.inl ⟨by rfl, by (intro w hSw; (try dsimp only at hSw); go_simp <;> with_reducible rfl)⟩
    simp only [Act.put, List.setIfInBounds_toArray, List.set_cons_zero, List.set_cons_succ]
    refine wpAnyH_done (by kernel_rfl) ?_ _

    go_wp2_with fail
    go_ret
    exact ⟨by rw [(unhide HX).1]; rfl, by rw [(unhide HX).2]; exact HR2⟩
#print axioms sync5
end Go.Proofs.YtmcgghjeocnpnaaGreatDoor
end
