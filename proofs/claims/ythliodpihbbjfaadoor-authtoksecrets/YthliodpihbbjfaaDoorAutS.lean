/-
  authtok: THE WALK of the statements' secrets.
-/
import Derived.Test.YthliodpihbbjfaaDoorAutW
import Derived.Deep.AppendLies
import Derived.Deep.RegionLaw
set_option linter.unusedVariables false
set_option maxRecDepth 1000000
namespace Go.Proofs.YthliodpihbbjfaaDoor
open Go.RowKit

/-- A secret with where its bytes lie. -/
abbrev Se := Sec × Option Addr × Nat
def seC (t : Se) : List Value := [.int .i64 t.1.1, .slice t.2.1 t.1.2.length t.2.2]
def ses (l : List Se) : List Value := l.flatMap seC
theorem ses_length (l : List Se) : (ses l).length = l.length * 2 := by
  induction l with
  | nil => rfl
  | cons t r ih => simp [ses, seC] at ih ⊢; omega
theorem ses_append (l r : List Se) : ses (l ++ r) = ses l ++ ses r := by simp [ses]
theorem ses_one (l : List Se) : ∀ u ∈ ses l, u.oneCell' = true := by
  intro u hu
  obtain ⟨t, _, ht⟩ := List.mem_flatMap.1 hu
  simp [seC] at ht
  rcases ht with rfl | rfl <;> rfl
theorem ses_get : ∀ (l : List Se) (i j : Nat) (t : Se), l[i]? = some t → j < 2 → (ses l)[i * 2 + j]? = (seC t)[j]?
  | [], i, j, t, h, _ => by simp at h
  | u :: r, 0, j, t, h, hj => by
    simp at h
    subst h
    show (seC u ++ ses r)[0 * 2 + j]? = _
    rw [List.getElem?_append_left (by simp [seC]; omega)]
    simp
  | u :: r, i + 1, j, t, h, hj => by
    show (seC u ++ ses r)[(i + 1) * 2 + j]? = _
    have e : (i + 1) * 2 + j = (seC u).length + (i * 2 + j) := by simp [seC]; omega
    rw [e, List.getElem?_append_right (by omega), Nat.add_sub_cancel_left]
    exact ses_get r i j t (by simpa using h) hj
def OwnE (w : World) (base : Nat) (a : Option Addr) (cap : Nat) (l : List Se) : Prop := w.ownsRow base 52 2 (.slice a l.length cap) l.length (ses l)
theorem OwnE.cases {w : World} {base : Nat} {a : Option Addr} {cap : Nat} {l : List Se} (h : OwnE w base a cap l) :
    (a = none ∧ cap = 0 ∧ l = []) ∨ ∃ g cur, a = some ⟨g, 0, none⟩ ∧ base ≤ g ∧ w.heap[g]? = some (.cells cur 52 (0, 0)) ∧ l.length ≤ cap ∧ cap ≤ maxLen ∧ cur.size = cap * 2 ∧ cur.toList.take (l.length * 2) = ses l := by
  rcases h.2 with ⟨hv, hn⟩ | ⟨g, cap', cur, hv, hb, hg, hle, hm, hs, ht⟩
  · simp only [Value.slice.injEq] at hv
    exact .inl ⟨hv.1, hv.2.2, List.eq_nil_of_length_eq_zero hn⟩
  · simp only [Value.slice.injEq, true_and] at hv
    obtain ⟨rfl, rfl⟩ := hv
    exact .inr ⟨g, cur, rfl, hb, hg, hle, hm, hs, ht⟩
theorem OwnE.nil (w : World) (base : Nat) : OwnE w base none 0 [] := World.ownsRow_nil w base _ _
theorem OwnE.lt {w : World} {base : Nat} {a : Option Addr} {cap : Nat} {l : List Se} (h : OwnE w base a cap l) : ∀ k, blk a = some k → base ≤ k ∧ k < w.heap.size := by
  intro k hk
  rcases h.cases with ⟨rfl, rfl, rfl⟩ | ⟨g, cur, rfl, hb, hg, _⟩
  · simp [blk] at hk
  · simp [blk] at hk
    subst hk
    exact ⟨hb, (Array.getElem?_eq_some_iff.1 hg).1⟩
theorem OwnE.alloc {w : World} {base : Nat} {a : Option Addr} {cap : Nat} {l : List Se} (h : OwnE w base a cap l) (o : Obj) : OwnE (w.alloc o) base a cap l := World.ownsRow.alloc h o
theorem OwnE.below {w w' : World} {base B : Nat} {a : Option Addr} {cap : Nat} {l : List Se} (h : OwnE w base a cap l) (hb : Below B w w') (hB : w.heap.size ≤ B) : OwnE w' base a cap l := by
  refine ⟨h.1, ?_⟩
  rcases h.2 with hn | ⟨g, cap, cur, hv, hbb, hgg, rest⟩
  · exact .inl hn
  · refine .inr ⟨g, cap, cur, hv, hbb, ?_, rest⟩
    rw [hb.block g (by have := (Array.getElem?_eq_some_iff.1 hgg).1; omega)]
    exact hgg
/-- The bytes of the secrets lie in blocks of their own, apart from the row. -/
def Apt (w : World) (base : Nat) (a : Option Addr) (l : List Se) : Prop := ∀ t ∈ l, OwnB w base t.2.1 t.2.2 t.1.2 ∧ ∀ k, blk t.2.1 = some k → blk a ≠ some k
theorem Apt.below {w w' : World} {base B : Nat} {a : Option Addr} {l : List Se} (h : Apt w base a l) (hb : Below B w w') (hB : w.heap.size ≤ B) : Apt w' base a l := fun t ht => ⟨(h t ht).1.below hb hB, (h t ht).2⟩
theorem OwnE.secR {w : World} {base : Nat} {a : Option Addr} {cap : Nat} {l : List Se} (h : OwnE w base a cap l) (hA : Apt w base a l) (hi : ∀ t ∈ l, -9223372036854775808 ≤ t.1.1 ∧ t.1.1 ≤ 9223372036854775807) : SecR w a (l.map (·.1)) := by
  refine ⟨fun hne => ?_, fun s hs => ?_⟩
  · rcases h.cases with ⟨rfl, rfl, rfl⟩ | ⟨g, cur, rfl, hb, hg, hle, hm, hs, ht⟩
    · simp at hne
    · refine ⟨g, 0, rfl, fun i s hs' => ?_⟩
      rw [List.getElem?_map] at hs'
      obtain ⟨t, ht', rfl⟩ := Option.map_eq_some_iff.1 hs'
      have hlt := (List.getElem?_eq_some_iff.1 ht').1
      have key : ∀ j, j < 2 → w.cell? ⟨g, i * 2 + j, none⟩ = (seC t)[j]? := by
        intro j hj
        rw [cell_of_row w g (i * 2 + j) cur _ (0, 0) hg, ← ses_get l i j t ht' hj, ← ht, List.getElem?_take, if_pos (by omega)]
        simp
      have k0 := key 0 (by omega)
      have k1 := key 1 (by omega)
      refine ⟨t.2.1, t.2.2, ?_, ?_, (hA t (List.mem_of_getElem? ht')).1.toBs⟩
      · rw [Nat.zero_add]; exact k0
      · rw [Nat.zero_add]; exact k1
  · obtain ⟨t, ht, rfl⟩ := List.mem_map.1 hs
    exact hi t ht
theorem Tryd.infoE : (Tryd.prog.info? 52).map (fun i => (i.zero, i.size, i.bytes)) = some (some (.agg #[.int .i64 0, .slice none 0 0]), 2, 32) := by kernel_rfl
theorem news_se {w : World} {B : Nat} {t : Se} (h : w.heap[B]? = some (.cells (seC t).toArray 52 (0, 0))) : ∀ j u, (ses [t])[j]? = some u → w.cell? ((⟨B, 0, none⟩ : Addr).add j) = some u := by
  intro j u hu
  rw [addr_add, Nat.zero_add, cell_of_row w B j _ _ _ h]
  have : ses [t] = seC t := by simp [ses]
  rw [this] at hu
  simpa using hu
theorem ownBlk {a : Option Addr} {n cap : Nat} : (Value.slice a n cap).ownBlock = blk a := by cases a <;> rfl
/-- append(s, secret), as a step of a region that draws its order. -/
theorem stp_appe (w : World) {ops : Array Oper} {o : Oper} {a : Act} {K : Act → World → Prop} {Q : Exit → Act → World → Prop} {E : Prop} (hgd : o.guard = none) (s x : Operand)
    (ho : o.op = .call { callee := .builtin .append, args := #[s, x], argTypes := #[22, 22] })
    (base : Nat) (a1 : Option Addr) (cap1 : Nat) (l1 : List Se) (n1 : Nat) (hs : a.eval s = .slice a1 n1 cap1) (hn1 : n1 = l1.length) (hown : OwnE w base a1 cap1 l1)
    (B c2 : Nat) (t : Se) (hx : a.eval x = .slice (some ⟨B, 0, none⟩) 1 c2) (hsrc : w.heap[B]? = some (.cells (seC t).toArray 52 (0, 0))) (hlen : l1.length ≤ 1000000) (hbase : base ≤ w.heap.size)
    (h : ∀ g cap w', Hid (OwnE w' base (some ⟨g, 0, none⟩) cap (l1 ++ [t])) → Hid (w.grownBy w' (blk a1)) → Hid (blk a1 = some g ∨ g = w.heap.size) → K (a.put o.dst (.slice (some ⟨g, 0, none⟩) (n1 + 1) cap)) w') :
    if Region.wanted o (yielded ops a.tmps) = true then Oper.wp Tryd.prog o a w K Q else E := by
  subst hn1
  obtain ⟨i, hi, hz0, hz1, hz2⟩ := info_parts Tryd.infoE
  refine step_append_lies w hgd s x 22 ho base 52 i _ 2 32 Tryd.underlying22 hi hz0 hz1 hz2 rfl (by decide) _ _ _ hs hown ⟨B, 0, none⟩ 1 c2 (ses [t]) hx (by rw [ses_length]; simp) (news_se hsrc) (ses_one [t]) (by decide) (by unfold maxLen; omega) (by omega) hbase _ rfl ?_
  intro g cap w' h1 h2 h3 h4
  rw [ownBlk] at h2 h3
  refine h g cap w' ?_ h2 h3
  have e1 : l1.length + 1 = (l1 ++ [t]).length := by simp
  show OwnE _ _ _ _ _
  unfold OwnE
  rw [← e1, ses_append]
  exact h1
#print axioms stp_appe
end Go.Proofs.YthliodpihbbjfaaDoor
