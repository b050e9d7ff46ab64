/-
  wsock, fields of any name: header.Small, header.Values, header.Only, and the reference's small (out of BerX).; httpd's reader as mathematics: what takes the next byte, and what comes of it.
-/
import Derived.Test.YtonaekkenggmbaaGreatDoorPkHadsad
import Derived.Test.YtonaekkenggmbaaGreatDoorPkHadsac
import Derived.Lib.ConvBytes
import Derived.Laws.Rows
import Derived.Deep.DeepCutAuto
import Derived.Deep.RegionHeld3
section
set_option linter.unusedVariables false
set_option maxRecDepth 1000000
namespace Go.Proofs.YtonaekkenggmbaaGreatDoor
open Go.RowKit

/-- A small letter for a capital. -/
def lowB (c : UInt8) : UInt8 := if 65 ≤ c.toNat ∧ c.toNat ≤ 90 then c + 32 else c
def sm (l : List UInt8) : List UInt8 := l.map lowB
/-- The first k of them small. -/
def pl (l : List UInt8) (k : Nat) : List UInt8 := l.mapIdx (fun i c => if i < k then lowB c else c)
theorem pl_length (l : List UInt8) (k : Nat) : (pl l k).length = l.length := by simp [pl]
theorem pl_zero (l : List UInt8) : pl l 0 = l := by
  apply List.ext_getElem?
  intro i
  simp [pl, List.getElem?_mapIdx]
theorem pl_all (l : List UInt8) : pl l l.length = sm l := by
  apply List.ext_getElem?
  intro i
  by_cases hi : i < l.length
  · simp [pl, sm, hi]
  · rw [List.getElem?_eq_none (by simp [pl_length]; omega), List.getElem?_eq_none (by simp [sm]; omega)]
theorem pl_get (l : List UInt8) (k i : Nat) (h : i < l.length) : (pl l k).getD i 0 = if i < k then lowB (l.getD i 0) else l.getD i 0 := by
  simp only [List.getD_eq_getElem?_getD, pl, List.getElem?_mapIdx, List.getElem?_eq_getElem h]
  simp
theorem pl_succ (l : List UInt8) (k : Nat) (h : k < l.length) : (pl l k).set k (lowB (l.getD k 0)) = pl l (k + 1) := by
  apply List.ext_getElem?
  intro i
  by_cases hi : i < l.length
  · rw [List.getElem?_set]
    by_cases hk : k = i
    · subst hk
      rw [if_pos rfl, if_pos (by rw [pl_length]; exact h)]
      simp [pl, h]
    · rw [if_neg hk]
      simp only [pl, List.getElem?_mapIdx, List.getElem?_eq_getElem hi, Option.map_some]
      congr 1
      have : (i < k) ↔ (i < k + 1) := by omega
      simp [this]
  · rw [List.getElem?_eq_none (by simp [pl_length]; omega), List.getElem?_eq_none (by simp [pl_length]; omega)]
theorem pl_stay (l : List UInt8) (k : Nat) (h : k < l.length) (hc : ¬ (65 ≤ (l.getD k 0).toNat ∧ (l.getD k 0).toNat ≤ 90)) : pl l (k + 1) = pl l k := by
  rw [← pl_succ l k h]
  have e : lowB (l.getD k 0) = (pl l k).getD k 0 := by
    rw [pl_get l k k h, if_neg (by omega)]
    unfold lowB
    rw [if_neg hc]
  rw [e]
  apply List.ext_getElem?
  intro i
  rw [List.getElem?_set]
  by_cases hk : k = i
  · subst hk
    rw [if_pos rfl, if_pos (by rw [pl_length]; exact h), List.getD_eq_getElem?_getD]
    rw [List.getElem?_eq_getElem (by rw [pl_length]; exact h)]
    rfl
  · rw [if_neg hk]
theorem low_nat (c : UInt8) (h : 65 ≤ c.toNat ∧ c.toNat ≤ 90) : (lowB c).toNat = c.toNat + 32 := by
  unfold lowB
  rw [if_pos h]
  have : (c + 32).toNat = (c.toNat + 32) % 256 := by rw [UInt8.toNat_add]; rfl
  rw [this]; omega
theorem sm_length (l : List UInt8) : (sm l).length = l.length := by simp [sm]
theorem low_sp (c : UInt8) : lowB c = 32 ↔ c = 32 := by
  have : ∀ k : Fin 256, (lowB (UInt8.ofNat k.val) = 32 ↔ UInt8.ofNat k.val = 32) := by decide +kernel
  have h := this ⟨c.toNat, c.toNat_lt⟩
  simpa using h

abbrev Hd := List UInt8 × List UInt8
/-- The values of all fields of a name (of small letters). -/
def vals (nm : List UInt8) (H : List Hd) : List (List UInt8) := (H.filter (fun h => decide (sm h.1 = nm))).map (·.2)
def only (nm : List UInt8) (H : List Hd) : List UInt8 := if (vals nm H).length = 1 then (vals nm H).getD 0 [] else []

theorem gsc (w : World) (p : Addr) (u : Value) : w.grownBy (w.setCell p u) (some p.block) :=
  ⟨rfl, rfl, rfl, by simp [World.setCell], fun k hk hne => Below.heap_setCell w p u k (by intro h; subst h; exact hne rfl)⟩
/-- Bytes in a block that may be written. -/
structure Mu (w : World) (g : Nat) (l : List UInt8) : Prop where
  cells : ∀ i, i < l.length → w.cell? ⟨g, i, none⟩ = some (.int .u8 ((l.getD i 0).toNat : Int))
  thaw : ∀ i, i < l.length → w.frozen? ⟨g, i, none⟩ = false
theorem Mu.row {w : World} {g : Nat} {l : List UInt8} (h : Mu w g l) : Row w (some ⟨g, 0, none⟩) l := fun _ => ⟨g, 0, rfl, fun i hi => by rw [Nat.zero_add]; exact h.cells i hi⟩
theorem Mu.set {w : World} {g : Nat} {l : List UInt8} (h : Mu w g l) (k : Nat) (c : UInt8) (hk : k < l.length) : Mu (w.setCell ⟨g, k, none⟩ (.int .u8 (c.toNat : Int))) g (l.set k c) := by
  refine ⟨fun i hi => ?_, fun i hi => ?_⟩
  · rw [List.length_set] at hi
    by_cases e : k = i
    · subst e
      rw [World.cell?_setCell_same _ _ _ (h.cells k hi), List.getD_eq_getElem?_getD, List.getElem?_set_self hi]
      rfl
    · rw [World.cell?_setCell_other _ _ _ _ (by intro h2; exact e (congrArg Addr.off h2)), h.cells i hi, List.getD_eq_getElem?_getD, List.getD_eq_getElem?_getD, List.getElem?_set_ne e]
  · rw [List.length_set] at hi
    rw [World.frozen?_setCell]
    exact h.thaw i hi
theorem to_mu (l : List UInt8) (w : World) (hl : l.length ≤ 1000000) : ∃ V c, (convert 9 28 (.string (str l))).run Tryz.prog w = .ok (.slice (some ⟨w.heap.size, 0, none⟩) l.length c) V ∧ Below w.heap.size w V ∧ Mu V w.heap.size l := by
  refine ⟨Lib.bytesWorld w 5 (str l), grownCap w (str l).size 0 5, ?_, ?_, ?_, ?_⟩
  · have := Lib.run_convert_string_bytes (P := Tryz.prog) w 9 28 5 (str l) Tryz.underlying9 Tryz.underlying28 Tryz.underlying5
    rw [this, str_size]
  · exact ⟨rfl, rfl, rfl, by rw [Lib.bytesWorld_size]; omega, fun k hk => Lib.bytesWorld_at_old w _ _ k hk⟩
  · intro i hi
    rw [Lib.bytesWorld_cell w _ (str l) i (by rw [str_size]; exact hi)]
    rfl
  · intro i hi
    unfold World.frozen?
    rw [Lib.bytesWorld_at_new]
    have hs : l.length ≤ (Lib.bytesCells w 5 (str l)).size := by
      have := Lib.bytesWorld_cell w 5 (str l) i (by rw [str_size]; exact hi)
      have hc : ∀ j, j < l.length → j < (Lib.bytesCells w 5 (str l)).size := by
        intro j hj
        have h1 := Lib.bytesWorld_cell w 5 (str l) j (by rw [str_size]; exact hj)
        rw [cell_of_row _ _ _ _ _ _ (Lib.bytesWorld_at_new w 5 (str l))] at h1
        exact (Array.getElem?_eq_some_iff.1 h1).1
      exact Nat.le_of_not_lt fun h => by have := hc _ h; omega
    simp
    omega
set_option maxHeartbeats 2000000 in
theorem small_any (l : List UInt8) (w : World) (hl : l.length ≤ 1000000) :
    Calls Tryz.prog 57 #[.string (str l)] w fun e w' => e = .returned (.string (str (sm l))) ∧ Below w.heap.size w w' := by
  obtain ⟨V, c, hconv, hbV, hmu⟩ := to_mu l w hl
  have HM0 : Hid (Mu V w.heap.size (pl l 0)) := by show Mu _ _ _; rw [pl_zero]; exact hmu
  have HB0 := hide hbV
  have hgV : w.heap.size < V.heap.size ∨ l = [] := by
    by_cases h : l = []
    · exact .inr h
    · exact .inl (World.block_lt_of_cell? V _ (hmu.cells 0 (List.length_pos_iff.2 h)))
  clear hmu hbV hgV
  go_enter Tryz.func57, Tryz.ntmps57
  go_wp2
  clear hconv
  go_loopw [10] (fun v wr => ∃ k : Nat, k ≤ l.length ∧ v = .int .i64 (k : Int) ∧ Hid (Mu wr w.heap.size (pl l k)) ∧ Hid (Below w.heap.size w wr)) (fun v _ => l.length - (intOf v).toNat)
  case atStart => exact ⟨0, Nat.zero_le _, rfl, HM0, HB0⟩
  case round =>
    clear HM0 HB0
    obtain ⟨k, hk, rfl, hm, hb⟩ := hrel
    by_cases hlt : k < l.length
    · have c0 := (unhide hm).cells k (by rw [pl_length]; exact hlt)
      have f0 := (unhide hm).thaw k (by rw [pl_length]; exact hlt)
      rw [pl_get l k k hlt, if_neg (by omega)] at c0
      have hlt' : (k : Int) < (l.length : Int) := by omega
      obtain ⟨x, hx⟩ : ∃ x, l.getD k 0 = x := ⟨_, rfl⟩
      rw [hx] at c0
      have hx256 := x.toNat_lt
      obtain ⟨X, hX⟩ : ∃ X, x.toNat = X := ⟨_, rfl⟩
      rw [hX] at c0 hx256
      by_cases h1 : 65 ≤ X
      · by_cases h2 : X ≤ 90
        · have d1 : decide ((65 : Int) ≤ (X : Int)) = true := decide_eq_true (by omega)
          have d2 : decide ((X : Int) ≤ 90) = true := decide_eq_true (by omega)
          obtain ⟨Y, hY⟩ : ∃ Y : Nat, Y = X - 65 := ⟨_, rfl⟩
          obtain ⟨Z, hZ⟩ : ∃ Z : Nat, Z = X + 32 := ⟨_, rfl⟩
          have e1 : (X : Int) - 65 = (Y : Int) := by omega
          have e2 : (Y : Int) + 97 = (Z : Int) := by omega
          have e3 : (X : Int) + 32 = (Z : Int) := by omega
          have hY2 : Y ≤ 25 := by omega
          have hZ2 : Z ≤ 122 := by omega
          have hzl : ((lowB (l.getD k 0)).toNat : Int) = (Z : Int) := by rw [hx, low_nat x (by omega), hX]; omega
          have HM := hide ((unhide hm).set k (lowB (l.getD k 0)) (by rw [pl_length]; exact hlt))
          rw [pl_succ l k hlt, hzl] at HM
          have HB : Hid (Below w.heap.size w (wr.setCell ⟨w.heap.size, k, none⟩ (.int .u8 (Z : Int)))) := hb.out.grown (gsc wr _ _) hb.out.size (fun j hj => by rw [← Option.some.inj hj]; exact Nat.le_refl _)
          clear hm hb hx hX hY hZ hzl h1 h2
          go_wp2
          go_roundw
          case rel => exact ⟨k + 1, by omega, by go_num, HM, HB⟩
          case measure => simp [intOf]; omega
        · have d1 : decide ((65 : Int) ≤ (X : Int)) = true := decide_eq_true (by omega)
          have d2 : decide ((X : Int) ≤ 90) = false := decide_eq_false (by omega)
          have HM : Hid (Mu wr w.heap.size (pl l (k + 1))) := by show Mu _ _ _; rw [pl_stay l k hlt (by rw [hx]; omega)]; exact unhide hm
          clear hm hx hX h1 h2
          go_wp2
          go_roundw
          case rel => exact ⟨k + 1, by omega, by go_num, HM, hb⟩
          case measure => simp [intOf]; omega
      · have d1 : decide ((65 : Int) ≤ (X : Int)) = false := decide_eq_false (by omega)
        have HM : Hid (Mu wr w.heap.size (pl l (k + 1))) := by show Mu _ _ _; rw [pl_stay l k hlt (by rw [hx]; omega)]; exact unhide hm
        clear hm hx hX h1
        go_wp2
        go_roundw
        case rel => exact ⟨k + 1, by omega, by go_num, HM, hb⟩
        case measure => simp [intOf]; omega
    · obtain rfl : k = l.length := by omega
      have hlt' : ¬ (l.length : Int) < (l.length : Int) := by omega
      have hr := (unhide hm).row
      rw [pl_all] at hr
      have k1 := run_str wr (some ⟨w.heap.size, 0, none⟩) l.length c (sm l) hr (by rw [sm_length])
      clear hm hr hlt
      go_wp2
      go_ret
      exact ⟨rfl, unhide hb⟩
#print axioms small_any


def ns (l : List (List UInt8)) : List Value := l.map fun (c : List UInt8) => .string (str c)
theorem ns_length (l : List (List UInt8)) : (ns l).length = l.length := by simp [ns]
theorem ns_append (l r : List (List UInt8)) : ns (l ++ r) = ns l ++ ns r := by simp [ns]
theorem ns_get (l : List (List UInt8)) (i : Nat) (h : i < l.length) : (ns l)[i]? = some (.string (str (l.getD i []))) := by simp [ns, h]
theorem ns_one (l : List (List UInt8)) : ∀ u ∈ ns l, u.oneCell' = true := by
  intro u hu
  obtain ⟨_, _, rfl⟩ := List.mem_map.1 hu
  rfl
def OwnN (w : World) (base : Nat) (a : Option Addr) (cap : Nat) (l : List (List UInt8)) : Prop := w.ownsRow base 9 1 (.slice a l.length cap) l.length (ns l)

theorem OwnN.cases {w : World} {base : Nat} {a : Option Addr} {cap : Nat} {l : List (List UInt8)} (h : OwnN w base a cap l) :
    (a = none ∧ cap = 0 ∧ l = []) ∨ ∃ g cur, a = some ⟨g, 0, none⟩ ∧ base ≤ g ∧ w.heap[g]? = some (.cells cur 9 (0, 0)) ∧ l.length ≤ cap ∧ cap ≤ maxLen ∧ cur.size = cap ∧ cur.toList.take l.length = ns l := by
  rcases h.2 with ⟨hv, hn⟩ | ⟨g, cap', cur, hv, hb, hg, hle, hm, hs, ht⟩
  · simp only [Value.slice.injEq] at hv
    exact .inl ⟨hv.1, hv.2.2, List.eq_nil_of_length_eq_zero hn⟩
  · simp only [Value.slice.injEq, true_and] at hv
    obtain ⟨rfl, rfl⟩ := hv
    exact .inr ⟨g, cur, rfl, hb, hg, hle, hm, by simpa using hs, by simpa using ht⟩
/-- What ns read at a place. -/
theorem OwnN.some {w : World} {base : Nat} {a : Option Addr} {cap : Nat} {l : List (List UInt8)} (h : OwnN w base a cap l) (hl : 0 < l.length) :
    ∃ g, a = Option.some ⟨g, 0, none⟩ ∧ base ≤ g ∧ g < w.heap.size ∧ ∀ i, i < l.length → w.cell? ⟨g, i, none⟩ = Option.some (.string (str (l.getD i []))) := by
  rcases h.cases with ⟨_, _, rfl⟩ | ⟨g, cur, rfl, hb, hg, hle, hm, hs, ht⟩
  · simp at hl
  · refine ⟨g, rfl, hb, (Array.getElem?_eq_some_iff.1 hg).1, fun i hi => ?_⟩
    rw [cell_of_row w g i cur _ (0, 0) hg, ← ns_get l i hi, ← ht, List.getElem?_take, if_pos hi]
    simp
theorem OwnN.lt {w : World} {base : Nat} {a : Option Addr} {cap : Nat} {l : List (List UInt8)} (h : OwnN w base a cap l) : ∀ k, blk a = Option.some k → base ≤ k ∧ k < w.heap.size := by
  intro k hk
  rcases h.cases with ⟨rfl, rfl, rfl⟩ | ⟨g, cur, rfl, hb, hg, _⟩
  · simp [blk] at hk
  · simp [blk] at hk
    subst hk
    exact ⟨hb, (Array.getElem?_eq_some_iff.1 hg).1⟩
theorem OwnN.le {w : World} {base : Nat} {a : Option Addr} {cap : Nat} {l : List (List UInt8)} (h : OwnN w base a cap l) : l.length ≤ cap ∧ cap ≤ maxLen := by
  rcases h.cases with ⟨rfl, rfl, rfl⟩ | ⟨g, cur, rfl, hb, hg, h1, h2, _⟩
  · simp
  · exact ⟨h1, h2⟩
theorem OwnN.nil (w : World) (base : Nat) : OwnN w base none 0 [] := World.ownsRow_nil w base _ _
theorem OwnN.kept {w w' : World} {base : Nat} {a : Option Addr} {cap : Nat} {l : List (List UInt8)} (h : OwnN w base a cap l) {row : Option Nat} (hg : w.grownBy w' row) (hne : blk a = none ∨ blk a ≠ row) : OwnN w' base a cap l := by
  refine World.ownsRow.kept h hg ?_
  cases a with
  | none => exact .inl rfl
  | some x =>
    rcases hne with h' | h'
    · cases h'
    · exact .inr h'
theorem OwnN.alloc {w : World} {base : Nat} {a : Option Addr} {cap : Nat} {l : List (List UInt8)} (h : OwnN w base a cap l) (o : Obj) : OwnN (w.alloc o) base a cap l := World.ownsRow.alloc h o
theorem OwnN.below {w w' : World} {base B : Nat} {a : Option Addr} {cap : Nat} {l : List (List UInt8)} (h : OwnN w base a cap l) (hb : Below B w w') (hB : w.heap.size ≤ B) : OwnN w' base a cap l := by
  refine ⟨h.1, ?_⟩
  rcases h.2 with hn | ⟨g, cap, cur, hv, hbb, hgg, rest⟩
  · exact .inl hn
  · refine .inr ⟨g, cap, cur, hv, hbb, ?_, rest⟩
    rw [hb.block g (by have := (Array.getElem?_eq_some_iff.1 hgg).1; omega)]
    exact hgg
theorem Tryz.infoN : (Tryz.prog.info? 9).map (fun i => (i.zero, i.size, i.bytes)) = some (some (.string ByteArray.empty), 1, 16) := by kernel_rfl

/-- append(s, n), s the call's own. -/
theorem wp_appn (w : World) {ops : Array Oper} {rest : List Oper} {o : Oper} {a : Act} {Q : Exit → Act → World → Prop} (hgd : o.guard = none) (s x : Operand)
    (ho : o.op = .call { callee := .builtin .append, args := #[s, x], argTypes := #[85, 85] })
    (base : Nat) (a1 : Option Addr) (cap1 : Nat) (l1 : List (List UInt8)) (hs : a.eval s = .slice a1 l1.length cap1) (hown : OwnN w base a1 cap1 l1)
    (b cap2 : Nat) (n : List UInt8) (hx : a.eval x = .slice (some ⟨b, 0, none⟩) 1 cap2) (hsrc : w.cell? ⟨b, 0, none⟩ = some (.string (str n)))
    (hlen : l1.length ≤ 100000000) (hbase : base ≤ w.heap.size)
    (h : ∀ a' cap' r w', Hid (r = l1 ++ [n]) → OwnN w' base a' cap' r → w.grownBy w' (blk a1) → wpList Tryz.prog ops Q rest (a.put o.dst (.slice a' r.length cap')) w') : wpList Tryz.prog ops Q (o :: rest) a w := by
  obtain ⟨i, hi, hz0, hz1, hz2⟩ := info_parts Tryz.infoN
  have hblk : (Value.slice a1 l1.length cap1).ownBlock = blk a1 := by cases a1 <;> rfl
  refine wpList_append_own w hgd s x 85 ho base 9 i (.string ByteArray.empty) 1 16 Tryz.underlying85 hi hz0 hz1 hz2 rfl (by decide) _ _ _ hs hown ⟨b, 0, none⟩ 1 cap2 (ns [n]) hx (by simp [ns_length]) ?_ (ns_one [n]) (by unfold maxLen; omega) (by omega) hbase ?_
  · intro j u hu
    have hj : j < 1 := by
      have := (List.getElem?_eq_some_iff.1 hu).1
      simpa [ns_length] using this
    obtain rfl : j = 0 := by omega
    rw [ns_get [n] 0 (by simp)] at hu
    obtain rfl := Option.some.inj hu
    rw [addr_add]
    exact hsrc
  · intro v' w' h1 h2 _
    have e1 : l1.length + 1 = (l1 ++ [n]).length := by simp
    have e2 : ns l1 ++ ns [n] = ns (l1 ++ [n]) := (ns_append l1 [n]).symm
    rw [e1, e2] at h1
    have hv : ∃ a' cap', v' = .slice a' (l1 ++ [n]).length cap' := by
      rcases h1.2 with ⟨hv, hn⟩ | ⟨g, cap, cur, hv, _⟩
      · exact ⟨none, 0, by rw [hv, hn]⟩
      · exact ⟨_, _, hv⟩
    obtain ⟨a', cap', rfl⟩ := hv
    rw [hblk] at h2
    exact h a' cap' (l1 ++ [n]) w' rfl h1 h2
/-- A row of fields. -/
structure HdR (w : World) (p : Option Addr) (H : List Hd) : Prop where
  mem : H ≠ [] → ∃ b off, p = some ⟨b, off, none⟩ ∧ ∀ t h, H[t]? = some h → w.cell? ⟨b, off + t * 2, none⟩ = some (.string (str h.1)) ∧ w.cell? ⟨b, off + t * 2 + 1, none⟩ = some (.string (str h.2))
  le : H.length ≤ maxLen
theorem HdR.below {w w' : World} {B : Nat} {p : Option Addr} {H : List Hd} (h : HdR w p H) (hb : Below B w w') (hB : w.heap.size ≤ B) : HdR w' p H := by
  refine ⟨fun hne => ?_, h.le⟩
  obtain ⟨b, off, rfl, hc⟩ := h.mem hne
  refine ⟨b, off, rfl, fun t d hd => ?_⟩
  obtain ⟨c0, c1⟩ := hc t d hd
  have k : ∀ {q : Addr} {v : Value}, w.cell? q = some v → w'.cell? q = some v := fun {q v} e => by
    rw [hb.cell (Nat.lt_of_lt_of_le (World.block_lt_of_cell? w _ e) hB)]; exact e
  exact ⟨k c0, k c1⟩
/-- No field is too long to be gone through. -/
def HdS (H : List Hd) : Prop := ∀ (t : Nat) (h : Hd), H[t]? = some h → h.1.length ≤ 1000000 ∧ h.2.length ≤ 1000000
def valsTo (nm : List UInt8) (H : List Hd) (k : Nat) : List (List UInt8) := vals nm (H.take k)
theorem vals_step (nm : List UInt8) (H : List Hd) (k : Nat) (h : Hd) (hk : H[k]? = some h) : valsTo nm H (k + 1) = if sm h.1 = nm then valsTo nm H k ++ [h.2] else valsTo nm H k := by
  have hlt := (List.getElem?_eq_some_iff.1 hk).1
  have he : H[k] = h := by have := List.getElem?_eq_getElem hlt; rw [this] at hk; exact Option.some.inj hk
  unfold valsTo vals
  rw [List.take_succ_eq_append_getElem hlt, List.filter_append, List.map_append, he]
  by_cases e : sm h.1 = nm
  · rw [if_pos e]; simp [e]
  · rw [if_neg e]; simp [e]
theorem vals_len (nm : List UInt8) (H : List Hd) (k : Nat) : (valsTo nm H k).length ≤ k := by
  unfold valsTo vals
  rw [List.length_map]
  refine Nat.le_trans (List.length_filter_le _ _) ?_
  rw [List.length_take]; omega
theorem str_beq (a b : List UInt8) : ((str a).toList == (str b).toList) = (a == b) := by rw [toList_str, toList_str]

set_option maxHeartbeats 4000000 in
theorem values_any (nm : List UInt8) (hnm : sm nm = nm) (hnl : nm.length ≤ 1000000) (p : Option Addr) (cp : Nat) (H : List Hd) (w : World) (h : HdR w p H) (hS : HdS H) (hl : H.length ≤ 1000000) :
    Calls Tryz.prog 48 #[.slice p H.length cp, .string (str nm)] w fun e w' => ∃ a c L, e = .returned (.slice a L.length c) ∧ Hid (L = vals nm H) ∧ Hid (OwnN w' w.heap.size a c L) ∧ Hid (Below w.heap.size w w') := by
  have HH := hide h
  have HSS := hide hS
  clear h hS
  go_enter Tryz.func48, Tryz.ntmps48
  go_wp2_with (go_at_call 57; refine (small_any nm w hnl).mono ?_; rw [hnm]; rintro e w1 ⟨rfl, hb1⟩)
  have HB1 := hide hb1
  clear hb1 hnm
  go_loopw [5, 12] (fun v i wr => ∃ k : Nat, k ≤ H.length ∧ i = .int .i64 (k : Int) ∧ ∃ a c L, v = .slice a L.length c ∧ Hid (L = valsTo nm H k) ∧ Hid (OwnN wr w.heap.size a c L) ∧ Hid (Below w.heap.size w wr)) (fun _ i _ => H.length - (intOf i).toNat)
  case atStart => exact ⟨0, Nat.zero_le _, rfl, none, 0, [], rfl, rfl, OwnN.nil _ _, HB1⟩
  case round =>
    clear HB1
    obtain ⟨k, hk, rfl, a, c, L, rfl, HL, HO, HB⟩ := hrel
    by_cases hlt : k < H.length
    · obtain ⟨d, hd⟩ : ∃ d, H[k]? = some d := ⟨_, List.getElem?_eq_getElem hlt⟩
      obtain ⟨b, off, hpe, hc⟩ := ((unhide HH).below (unhide HB) (Nat.le_refl _)).mem (by intro e; subst e; simp at hd)
      subst hpe
      obtain ⟨c0, c1⟩ := hc k d hd
      have hs := unhide HSS k d hd
      have HST := hide (vals_step nm H k d hd)
      have hlt' : (k : Int) < (H.length : Int) := by omega
      have hLl : L.length ≤ 1000000 := by rw [unhide HL]; have := vals_len nm H k; omega
      obtain ⟨wd, hwd⟩ : ∃ wd, wd = wr.alloc (.cells #[.string (str d.1), .string (str d.2)] 49) := ⟨_, rfl⟩
      have hbd : Below wr.heap.size wr wd := by rw [hwd]; exact (Below.refl _ _).alloc (Nat.le_refl _) _
      have hZ : wd.heap[wr.heap.size]? = some (.cells #[.string (str d.1), .string (str d.2)] 49 (0, 0)) := by rw [hwd]; exact heap_alloc_new wr _
      have z0 : wd.cell? ⟨wr.heap.size, 0, none⟩ = some (.string (str d.1)) := by rw [cell_of_row wd wr.heap.size 0 _ _ _ hZ]; rfl
      have HZ := hide hZ
      have HOd := hide ((unhide HO).below hbd (Nat.le_refl _))
      have HBd := hide ((unhide HB).trans (hbd.mono (unhide HB).size))
      have hwl : wr.heap.size < wd.heap.size := (Array.getElem?_eq_some_iff.1 hZ).1
      clear hc hd hbd hZ HO HB
      go_upto_region 6 with fail
      rw [← hwd]
      clear hwd c0 c1
      obtain ⟨q, hq⟩ : ∃ q, (sm d.1 == nm) = q := ⟨_, rfl⟩
      have hq2 : ((str (sm d.1)).toList == (str nm).toList) = q := by rw [str_beq, hq]
      have HQ := hide hq
      clear hq
      cases q with
      | false =>
        have HL2 : Hid (L = valsTo nm H (k + 1)) := by
          show _ = _
          rw [unhide HST, if_neg (by intro e; have := unhide HQ; rw [e] at this; simp at this)]
          exact unhide HL
        go_wp2_with (go_at_call 57; refine (small_any d.1 wd hs.1).mono ?_; rintro e w3 ⟨rfl, hb3⟩; have HB3 := hide hb3; clear hb3)
        have HO3 := hide ((unhide HOd).below (unhide HB3) (Nat.le_refl _))
        have HB4 := hide ((unhide HBd).trans ((unhide HB3).mono (unhide HBd).size))
        go_roundw
        case rel => exact ⟨k + 1, by omega, by go_num, a, c, L, rfl, HL2, HO3, HB4⟩
        case measure => simp [intOf]; omega
      | true =>
        have HL2 : Hid (valsTo nm H (k + 1) = L ++ [d.2]) := by
          show _ = _
          rw [unhide HST, if_pos (by simpa using unhide HQ), ← unhide HL]
        go_upto_region 7 with (go_at_call 57; refine (small_any d.1 wd hs.1).mono ?_; rintro e w3 ⟨rfl, hb3⟩; have HB3 := hide hb3; clear hb3)
        have HO3 := hide ((unhide HOd).below (unhide HB3) (Nat.le_refl _))
        have HB4 := hide ((unhide HBd).trans ((unhide HB3).mono (unhide HBd).size))
        have hZ3 := ((unhide HB3).block _ hwl).trans (unhide HZ)
        have z1 : w3.cell? ⟨wr.heap.size, 1, none⟩ = some (.string (str d.2)) := by rw [cell_of_row w3 wr.heap.size 1 _ _ _ hZ3]; rfl
        have hsz4 := (unhide HB4).size
        clear hZ3
        go_wp2_with (at_builtin; refine wp_appn _ rfl _ _ rfl w.heap.size a c L rfl ((unhide HO3).alloc _) w3.heap.size 1 d.2 rfl ?c1 (by omega) ?c2 ?_)
        case c1 => rw [cell_of_row _ w3.heap.size 0 _ _ _ (heap_alloc_new w3 _)]; rfl
        case c2 => simp; omega
        intro a5 c5 r5 w5 hr5 ho5 hg5
        have HR5 : Hid (r5 = valsTo nm H (k + 1)) := by show _ = _; rw [hr5.out, unhide HL2]
        have HB5 : Hid (Below w.heap.size w w5) := below_grown ((unhide HB4).alloc (unhide HB4).size _) hg5 (Nat.le_refl _) (fun j hj => ((unhide HO3).lt j hj).1)
        have HO5 := hide ho5
        clear hr5 hg5 ho5
        go_wp2
        go_roundw
        case rel => exact ⟨k + 1, by omega, by go_num, a5, c5, r5, rfl, HR5, HO5, HB5⟩
        case measure => simp [intOf]; omega
    · have hlt' : ¬ (k : Int) < (H.length : Int) := by omega
      have HLL : Hid (L = vals nm H) := by
        show _ = _
        rw [unhide HL]
        unfold valsTo
        rw [List.take_of_length_le (by omega)]
      clear hlt
      go_wp2
      go_ret
      exact ⟨a, c, L, rfl, HLL, HO, HB⟩
#print axioms values_any

end Go.Proofs.YtonaekkenggmbaaGreatDoor
end
section
set_option linter.unusedVariables false
namespace Go.Proofs.YtonaekkenggmbaaGreatDoor
open Go.RowKit

/-- What comes behind the last byte of a kind. -/
inductive Th where
  | fin
  | chk
  | cb (n : Nat)
  | tl
/-- What takes the next byte. -/
inductive St where
  | head (h : List UInt8)
  | bytes (n : Nat) (t : Th)
  | text (u : List UInt8) (a : Nat) (t : Th)
  | chunk (n d : Nat)
structure Rq where
  m : List UInt8
  p : List UInt8
  h : List Hd
  b : List UInt8
def Rq.nil : Rq := ⟨[], [], [], []⟩

def crlf : List UInt8 := [13, 10]
def hend : List UInt8 := [13, 10, 13, 10]
/-- A hexadecimal digit. -/
def hexB (c : UInt8) : Option Nat :=
  if 48 ≤ c.toNat ∧ c.toNat ≤ 57 then some (c.toNat - 48)
  else if 97 ≤ c.toNat ∧ c.toNat ≤ 102 then some (c.toNat - 97 + 10)
  else if 65 ≤ c.toNat ∧ c.toNat ≤ 70 then some (c.toNat - 65 + 10) else none
theorem hexB_lt (c : UInt8) (x : Nat) (h : hexB c = some x) : x < 16 := by
  unfold hexB at h
  split at h
  · cases h; omega
  · split at h
    · cases h; omega
    · split at h
      · cases h; omega
      · cases h

/-- A chunk of so many bytes begins. -/
def cbM (n : Nat) (Q : Rq) : Nat × St := if n > 32768 - Q.b.length then (413, .chunk 0 0) else if n = 0 then (1, .text crlf 0 .fin) else (1, .bytes n .tl)
/-- What comes then. -/
def thM (t : Th) (S : St) (Q : Rq) : Nat × St :=
  match t with
  | .fin => (0, S)
  | .chk => (1, .chunk 0 0)
  | .cb n => cbM n Q
  | .tl => (1, .text crlf 0 .chk)
/-- How a body comes: in chunks, or so many bytes. -/
structure Fm where
  c : Bool
  n : Nat
/-- What a head says: a request, how its body comes, or a status. -/
abbrev HdM := List UInt8 → Rq × Fm × Nat
def bhM (R : HdM) (Q : Rq) (h : List UInt8) : Nat × St × Rq :=
  let x := R h
  if x.2.2 ≠ 0 then (x.2.2, .head h, Q)
  else if x.2.1.c then (1, .chunk 0 0, x.1)
  else if x.2.1.n = 0 then (0, .head h, x.1) else (1, .bytes x.2.1.n .fin, x.1)
/-- One byte. -/
def stepM (R : HdM) (S : St) (Q : Rq) (c : UInt8) : Nat × St × Rq :=
  match S with
  | .head h =>
    if hend <:+ h ++ [c] then bhM R Q ((h ++ [c]).take (h.length + 1 - 4))
    else if h.length + 1 = 8196 then (431, .head h, Q) else (1, .head (h ++ [c]), Q)
  | .bytes n t =>
    let Q' : Rq := { Q with b := Q.b ++ [c] }
    if 1 < n then (1, .bytes (n - 1) t, Q') else let x := thM t S Q'; (x.1, x.2, Q')
  | .text u a t =>
    if c ≠ u.getD a 0 then (400, S, Q)
    else if a + 1 < u.length then (1, .text u (a + 1) t, Q) else let x := thM t S Q; (x.1, x.2, Q)
  | .chunk n d =>
    match hexB c with
    | some x => if d < 8 then (1, .chunk (n * 16 + x) (d + 1), Q) else if c = 13 ∧ 0 < d then (1, .text [10] 0 (.cb n), Q) else (400, S, Q)
    | none => if c = 13 ∧ 0 < d then (1, .text [10] 0 (.cb n), Q) else (400, S, Q)
/-- Bytes, until a request is whole or refused: how many, the status. -/
def runM (R : HdM) : St → Rq → List UInt8 → Nat × Nat × St × Rq
  | S, Q, [] => (0, 1, S, Q)
  | S, Q, c :: l =>
    let x := stepM R S Q c
    if x.1 = 1 then let y := runM R x.2.1 x.2.2 l; (y.1 + 1, y.2) else (1, x.1, x.2.1, x.2.2)
/-- P8.1. -/
def parseM (R : HdM) (l : List UInt8) : Rq × Nat × Nat :=
  let x := runM R (.head []) Rq.nil l
  if x.2.1 = 0 then (x.2.2.2, x.1, 0) else (Rq.nil, 0, x.2.1)

theorem runM_one (R : HdM) (S : St) (Q : Rq) (c : UInt8) (l : List UInt8) (h : (stepM R S Q c).1 = 1) : runM R S Q (c :: l) = ((runM R (stepM R S Q c).2.1 (stepM R S Q c).2.2 l).1 + 1, (runM R (stepM R S Q c).2.1 (stepM R S Q c).2.2 l).2) := by
  conv => lhs; unfold runM
  simp only [h, if_true]
theorem runM_end (R : HdM) (S : St) (Q : Rq) (c : UInt8) (l : List UInt8) (h : (stepM R S Q c).1 ≠ 1) : runM R S Q (c :: l) = (1, (stepM R S Q c).1, (stepM R S Q c).2.1, (stepM R S Q c).2.2) := by
  conv => lhs; unfold runM
  simp only [if_neg h]
theorem runM_le (R : HdM) : ∀ (l : List UInt8) (S : St) (Q : Rq), (runM R S Q l).1 ≤ l.length
  | [], S, Q => Nat.le_refl _
  | c :: l, S, Q => by
    by_cases h : (stepM R S Q c).1 = 1
    · rw [runM_one R S Q c l h]
      have := runM_le R l (stepM R S Q c).2.1 (stepM R S Q c).2.2
      simp only [List.length_cons]; omega
    · rw [runM_end R S Q c l h]; simp
/-- Bytes one behind the other. -/
theorem runM_app (R : HdM) : ∀ (l r : List UInt8) (S : St) (Q : Rq), runM R S Q (l ++ r) = if (runM R S Q l).2.1 = 1 then ((runM R (runM R S Q l).2.2.1 (runM R S Q l).2.2.2 r).1 + l.length, (runM R (runM R S Q l).2.2.1 (runM R S Q l).2.2.2 r).2) else runM R S Q l
  | [], r, S, Q => by simp [runM]
  | c :: l, r, S, Q => by
    rw [List.cons_append]
    by_cases h : (stepM R S Q c).1 = 1
    · rw [runM_one R S Q c _ h, runM_one R S Q c _ h, runM_app R l r]
      split
      · simp only [List.length_cons]; rfl
      · rfl
    · rw [runM_end R S Q c _ h, runM_end R S Q c _ h]
      simp only [if_neg h]
theorem runM_more (R : HdM) : ∀ (l : List UInt8) (S : St) (Q : Rq), (runM R S Q l).2.1 = 1 → (runM R S Q l).1 = l.length
  | [], S, Q, _ => rfl
  | c :: l, S, Q, h => by
    by_cases h1 : (stepM R S Q c).1 = 1
    · rw [runM_one R S Q c l h1] at h ⊢
      simp only [List.length_cons, runM_more R l _ _ h]
    · rw [runM_end R S Q c l h1] at h
      exact absurd h h1
/-- Of what is taken: each shorter beginning asks for more; what stands behind changes nothing. -/
theorem runM_cut (R : HdM) : ∀ (l : List UInt8) (S : St) (Q : Rq), (runM R S Q l).2.1 ≠ 1 → (∀ k, k < (runM R S Q l).1 → (runM R S Q (l.take k)).2.1 = 1) ∧ runM R S Q (l.take (runM R S Q l).1) = runM R S Q l
  | [], S, Q, h => absurd rfl h
  | c :: l, S, Q, h => by
    by_cases h1 : (stepM R S Q c).1 = 1
    · rw [runM_one R S Q c l h1] at h ⊢
      obtain ⟨i1, i2⟩ := runM_cut R l _ _ h
      refine ⟨fun k hk => ?_, ?_⟩
      · cases k with
        | zero => rfl
        | succ k =>
          rw [List.take_succ_cons, runM_one R S Q c _ h1]
          exact i1 k (by simpa using hk)
      · simp only [List.take_succ_cons]
        rw [runM_one R S Q c _ h1, i2]
    · rw [runM_end R S Q c l h1]
      refine ⟨fun k hk => ?_, ?_⟩
      · obtain rfl : k = 0 := by simpa using hk
        rfl
      · simp only [List.take_succ_cons, List.take_zero]
        rw [runM_end R S Q c _ h1]
/-- No body grows too long. -/
def okQ (S : St) (Q : Rq) : Prop :=
  match S with
  | .bytes n _ => 0 < n ∧ Q.b.length + n ≤ 32768
  | _ => Q.b.length ≤ 32768
def Rok (R : HdM) : Prop := ∀ h, (R h).1.b = [] ∧ (R h).2.1.n ≤ 32768 ∧ (R h).2.2 ≠ 1
theorem okQ_len {S : St} {Q : Rq} (h : okQ S Q) : Q.b.length ≤ 32768 := by
  cases S <;> simp only [okQ] at h <;> omega
theorem okQ_cb (n : Nat) (Q : Rq) (h : Q.b.length ≤ 32768) (h1 : (cbM n Q).1 = 1) : okQ (cbM n Q).2 Q := by
  unfold cbM at h1 ⊢
  split
  · rename_i h2; simp [h2] at h1
  · split
    · exact h
    · simp only [okQ]; omega
theorem okQ_th (t : Th) (S : St) (Q : Rq) (h : Q.b.length ≤ 32768) (h1 : (thM t S Q).1 = 1) : okQ (thM t S Q).2 Q := by
  cases t with
  | fin => simp [thM] at h1
  | chk => exact h
  | cb n => exact okQ_cb n Q h h1
  | tl => exact h
theorem okQ_step (R : HdM) (hR : Rok R) (S : St) (Q : Rq) (c : UInt8) (h : okQ S Q) (h1 : (stepM R S Q c).1 = 1) : okQ (stepM R S Q c).2.1 (stepM R S Q c).2.2 := by
  have hl := okQ_len h
  cases S with
  | head x =>
    simp only [stepM] at h1 ⊢
    split
    · rename_i h2
      rw [if_pos h2] at h1
      unfold bhM at h1 ⊢
      obtain ⟨r1, r2, r3⟩ := hR (List.take (x.length + 1 - 4) (x ++ [c]))
      simp only at h1 ⊢
      split
      · rename_i h3; rw [if_pos h3] at h1; exact absurd h1 r3
      · split
        · simp only [okQ, r1]; simp
        · split
          · rename_i h3 h4 h5; rw [if_neg h3, if_neg h4, if_pos h5] at h1; simp at h1
          · simp only [okQ, r1, List.length_nil]; omega
    · rename_i h2
      rw [if_neg h2] at h1
      split
      · rename_i h3; rw [if_pos h3] at h1; simp at h1
      · exact hl
  | bytes n t =>
    simp only [okQ] at h
    simp only [stepM] at h1 ⊢
    split
    · simp only [okQ, List.length_append, List.length_cons, List.length_nil]; omega
    · rename_i h2
      rw [if_neg h2] at h1
      exact okQ_th t _ _ (by simp; omega) h1
  | text u a t =>
    simp only [stepM] at h1 ⊢
    split
    · rename_i h2; rw [if_pos h2] at h1; simp at h1
    · rename_i h2
      rw [if_neg h2] at h1
      split
      · exact hl
      · rename_i h3
        rw [if_neg h3] at h1
        exact okQ_th t _ _ hl h1
  | chunk n d =>
    simp only [stepM] at h1 ⊢
    split
    · split
      · exact hl
      · split
        · exact hl
        · rename_i h2 h3; simp [*] at h1
    · split
      · exact hl
      · rename_i h3; simp [*] at h1
#print axioms runM_cut
#print axioms okQ_step
end Go.Proofs.YtonaekkenggmbaaGreatDoor
end
