/-
  httpd: rows of fields of one's own; readHeaders.
-/
import Derived.Test.YthkadboeokgjnacGreatDoorHhD
set_option linter.unusedVariables false
set_option maxRecDepth 1000000
namespace Go.Proofs.YthkadboeokgjnacGreatDoor
open Go.RowKit

def hcC (t : Hd) : List Value := [.string (str t.1), .string (str t.2)]
def hcs (l : List Hd) : List Value := l.flatMap hcC
theorem hcs_length (l : List Hd) : (hcs l).length = l.length * 2 := by
  induction l with
  | nil => rfl
  | cons t r ih => simp [hcs, hcC] at ih ⊢; omega
theorem hcs_append (l r : List Hd) : hcs (l ++ r) = hcs l ++ hcs r := by simp [hcs]
theorem hcs_one (l : List Hd) : ∀ u ∈ hcs l, u.oneCell' = true := by
  intro u hu
  obtain ⟨t, _, ht⟩ := List.mem_flatMap.1 hu
  simp [hcC] at ht
  rcases ht with rfl | rfl <;> rfl
theorem hcs_get : ∀ (l : List Hd) (i j : Nat) (t : Hd), l[i]? = some t → j < 2 → (hcs l)[i * 2 + j]? = (hcC t)[j]?
  | [], i, j, t, h, _ => by simp at h
  | u :: r, 0, j, t, h, hj => by
    simp at h
    subst h
    show (hcC u ++ hcs r)[0 * 2 + j]? = _
    rw [List.getElem?_append_left (by simp [hcC]; omega)]
    simp
  | u :: r, i + 1, j, t, h, hj => by
    show (hcC u ++ hcs r)[(i + 1) * 2 + j]? = _
    have e : (i + 1) * 2 + j = (hcC u).length + (i * 2 + j) := by simp [hcC]; omega
    rw [e, List.getElem?_append_right (by omega), Nat.add_sub_cancel_left]
    exact hcs_get r i j t (by simpa using h) hj
def OwnH (w : World) (base : Nat) (a : Option Addr) (cap : Nat) (l : List Hd) : Prop := w.ownsRow base 52 2 (.slice a l.length cap) l.length (hcs l)
theorem OwnH.cases {w : World} {base : Nat} {a : Option Addr} {cap : Nat} {l : List Hd} (h : OwnH w base a cap l) :
    (a = none ∧ cap = 0 ∧ l = []) ∨ ∃ g cur, a = some ⟨g, 0, none⟩ ∧ base ≤ g ∧ w.heap[g]? = some (.cells cur 52 (0, 0)) ∧ l.length ≤ cap ∧ cap ≤ maxLen ∧ cur.size = cap * 2 ∧ cur.toList.take (l.length * 2) = hcs l := by
  rcases h.2 with ⟨hv, hn⟩ | ⟨g, cap', cur, hv, hb, hg, hle, hm, hs, ht⟩
  · simp only [Value.slice.injEq] at hv
    exact .inl ⟨hv.1, hv.2.2, List.eq_nil_of_length_eq_zero hn⟩
  · simp only [Value.slice.injEq, true_and] at hv
    obtain ⟨rfl, rfl⟩ := hv
    exact .inr ⟨g, cur, rfl, hb, hg, hle, hm, hs, ht⟩
theorem OwnH.nil (w : World) (base : Nat) : OwnH w base none 0 [] := World.ownsRow_nil w base _ _
theorem OwnH.lt {w : World} {base : Nat} {a : Option Addr} {cap : Nat} {l : List Hd} (h : OwnH w base a cap l) : ∀ k, blk a = some k → base ≤ k ∧ k < w.heap.size := by
  intro k hk
  rcases h.cases with ⟨rfl, rfl, rfl⟩ | ⟨g, cur, rfl, hb, hg, _⟩
  · simp [blk] at hk
  · simp [blk] at hk
    subst hk
    exact ⟨hb, (Array.getElem?_eq_some_iff.1 hg).1⟩
theorem OwnH.below {w w' : World} {base B : Nat} {a : Option Addr} {cap : Nat} {l : List Hd} (h : OwnH w base a cap l) (hb : Below B w w') (hB : w.heap.size ≤ B) : OwnH w' base a cap l := by
  refine ⟨h.1, ?_⟩
  rcases h.2 with hn | ⟨g, cap, cur, hv, hbb, hgg, rest⟩
  · exact .inl hn
  · refine .inr ⟨g, cap, cur, hv, hbb, ?_, rest⟩
    rw [hb.block g (by have := (Array.getElem?_eq_some_iff.1 hgg).1; omega)]
    exact hgg
theorem OwnH.hdR {w : World} {base : Nat} {a : Option Addr} {cap : Nat} {l : List Hd} (h : OwnH w base a cap l) : HdR w a l := by
  rcases h.cases with ⟨rfl, rfl, rfl⟩ | ⟨g, cur, rfl, hb, hg, hle, hm, hs, ht⟩
  · exact ⟨fun hne => absurd rfl hne, by simp⟩
  · refine ⟨fun hne => ⟨g, 0, rfl, fun i s hs' => ?_⟩, by omega⟩
    have hlt := (List.getElem?_eq_some_iff.1 hs').1
    have key : ∀ j, j < 2 → w.cell? ⟨g, i * 2 + j, none⟩ = (hcC s)[j]? := by
      intro j hj
      rw [cell_of_row w g (i * 2 + j) cur _ (0, 0) hg, ← hcs_get l i j s hs' hj, ← ht, List.getElem?_take, if_pos (by omega)]
      simp
    have k0 := key 0 (by omega)
    have k1 := key 1 (by omega)
    exact ⟨by rw [Nat.zero_add]; exact k0, by rw [Nat.zero_add]; exact k1⟩
theorem Tryz.infoHd : (Tryz.prog.info? 52).map (fun i => (i.zero, i.size, i.bytes)) = some (some (.agg #[.string ByteArray.empty, .string ByteArray.empty]), 2, 32) := by kernel_rfl
/-- append(s, h), s the call's own. -/
theorem wp_apph (w : World) {ops : Array Oper} {rest : List Oper} {o : Oper} {a : Act} {Q : Exit → Act → World → Prop} (hgd : o.guard = none) (s x : Operand)
    (ho : o.op = .call { callee := .builtin .append, args := #[s, x], argTypes := #[28, 28] })
    (base : Nat) (a1 : Option Addr) (cap1 : Nat) (l1 : List Hd) (hs : a.eval s = .slice a1 l1.length cap1) (hown : OwnH w base a1 cap1 l1)
    (b cap2 : Nat) (n : Hd) (hx : a.eval x = .slice (some ⟨b, 0, none⟩) 1 cap2) (hs0 : w.cell? ⟨b, 0, none⟩ = some (.string (str n.1))) (hs1 : w.cell? ⟨b, 1, none⟩ = some (.string (str n.2)))
    (hlen : l1.length ≤ 100000000) (hbase : base ≤ w.heap.size)
    (h : ∀ a' cap' r w', Hid (r = l1 ++ [n]) → OwnH w' base a' cap' r → w.grownBy w' (blk a1) → wpList Tryz.prog ops Q rest (a.put o.dst (.slice a' r.length cap')) w') : wpList Tryz.prog ops Q (o :: rest) a w := by
  obtain ⟨i, hi, hz0, hz1, hz2⟩ := info_parts Tryz.infoHd
  have hblk : (Value.slice a1 l1.length cap1).ownBlock = blk a1 := by cases a1 <;> rfl
  refine wpList_append_own w hgd s x 28 ho base 52 i (.agg #[.string ByteArray.empty, .string ByteArray.empty]) 2 32 Tryz.underlying28 hi hz0 hz1 hz2 rfl (by decide) _ _ _ hs hown ⟨b, 0, none⟩ 1 cap2 (hcs [n]) hx (by simp [hcs_length]) ?_ (hcs_one [n]) (by unfold maxLen; omega) (by omega) hbase ?_
  · intro j u hu
    have hj : j < 2 := by
      have := (List.getElem?_eq_some_iff.1 hu).1
      simpa [hcs_length] using this
    have e := hcs_get [n] 0 j n rfl hj
    rw [Nat.zero_mul, Nat.zero_add] at e
    rw [e] at hu
    rw [addr_add]
    match j, hj with
    | 0, _ => cases hu; exact hs0
    | 1, _ => cases hu; exact hs1
  · intro v' w' h1 h2 _
    have e1 : l1.length + 1 = (l1 ++ [n]).length := by simp
    have e2 : hcs l1 ++ hcs [n] = hcs (l1 ++ [n]) := (hcs_append l1 [n]).symm
    rw [e1, e2] at h1
    have hv : ∃ a' cap', v' = .slice a' (l1 ++ [n]).length cap' := by
      rcases h1.2 with ⟨hv, hn⟩ | ⟨g, cap, cur, hv, _⟩
      · exact ⟨none, 0, by rw [hv, hn]⟩
      · exact ⟨_, _, hv⟩
    obtain ⟨a', cap', rfl⟩ := hv
    rw [hblk] at h2
    exact h a' cap' (l1 ++ [n]) w' rfl h1 h2
#print axioms wp_apph

def trm (l : List UInt8) : List UInt8 := Lib.trimS l [32, 9]
theorem trm_len (l : List UInt8) : (trm l).length ≤ l.length := by
  unfold trm Lib.trimS Lib.trimLeftS Lib.trimRightS
  refine Nat.le_trans (List.dropWhile_sublist _).length_le ?_
  rw [List.length_reverse]
  refine Nat.le_trans (List.dropWhile_sublist _).length_le ?_
  rw [List.length_reverse]
  exact Nat.le_refl _
theorem info116t : (Tryz.prog.info? (Tryz.lays160_ren.t 116)).map (fun i => (i.zero, i.size)) = some (some (.agg (Array.replicate 256 (.bool false))), 256) := by kernel_rfl
set_option maxHeartbeats 1000000 in
theorem trim_any (l : List UInt8) (w : World) (hl : l.length ≤ 1000000) :
    Calls Tryz.prog 45 #[.string (str l), .string ⟨#[32, 9]⟩] w fun e w' => e = .returned (.string (str (trm l))) ∧ Below w.heap.size w w' := by
  have hsz : (str l).size = l.length := str_size l
  by_cases h0 : l = []
  · subst h0
    have he : ((str []).toList == []) = true := by rw [toList_str]; rfl
    go_enter Tryz.func45, Tryz.ntmps45
    go_wp2
    go_ret
    exact ⟨rfl, Below.refl _ _⟩
  · have hpos := List.length_pos_iff.2 h0
    have hz := zero_of_info info116t
    have := Any.strings_Trim_set (ρ := Tryz.lays160_ren) Tryz.lays160 hz.1 hz.2 (str l) ⟨#[32, 9]⟩ w (by decide) (by omega) (by omega) (by decide) (by
      intro j b hj
      match j, hj with
      | 0, hj => simp at hj; subst hj; decide
      | 1, hj => simp at hj; subst hj; decide
      | j + 2, hj => simp at hj)
    refine Calls.mono this ?_
    rintro e w' ⟨rfl, q, rfl⟩
    refine ⟨rfl, ?_⟩
    exact below_drewN (((Below.refl _ _).alloc (Nat.le_refl _) _).alloc (by simp) _) q
theorem cut_len (l s : List UInt8) : (Lib.cut l s).1.length ≤ l.length ∧ (Lib.cut l s).2.1.length ≤ l.length := by
  unfold Lib.cut
  split <;> simp <;> omega
theorem cut58 (l : List UInt8) (w : World) (hl : l.length ≤ 1000000) (hm : Mx w) :
    Calls Tryz.prog 44 #[.string (str l), .string ⟨#[58]⟩] w fun e w' => e = .returned (.tuple #[.string (str (Lib.cut l [58]).1), .string (str (Lib.cut l [58]).2.1), .bool (Lib.cut l [58]).2.2]) ∧ Hid (Below w.heap.size w w') := by
  obtain ⟨m, hm⟩ := hm
  have hz2 : (str l).size = l.length := str_size l
  have h := Any.strings_Cut (ρ := Tryz.lays145_ren) Tryz.lays145 (str l) ⟨#[58]⟩ m w (by omega) hm
  refine h.mono ?_
  rintro e w' ⟨rfl, n, rfl⟩
  exact ⟨rfl, below_drewN (Below.refl _ _) n⟩
#print axioms cut58
/-- One line's field; none: it is none. -/
def fldM (l : List UInt8) : Option Hd := if (Lib.cut l [58]).2.2 && (tknB (Lib.cut l [58]).1 && vluB (trm (Lib.cut l [58]).2.1)) then some (sm (Lib.cut l [58]).1, trm (Lib.cut l [58]).2.1) else none
/-- What the lines behind the first one say. -/
def rhM : List (List UInt8) → List Hd → List Hd × Nat
  | [], acc => (acc, 0)
  | l :: L, acc => if acc.length = 32 then ([], 431) else match fldM l with | some h => rhM L (acc ++ [h]) | none => ([], 400)
end Go.Proofs.YthkadboeokgjnacGreatDoor
