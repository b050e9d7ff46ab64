/-
  httpd: readHead: what a head says.
-/
import Derived.Test.YthkadboeokgjnacGreatDoorHhI
import Derived.Test.YthkadboeokgjnacGreatDoorCanR
import Derived.Test.YthkadboeokgjnacGreatDoorHtZ
set_option linter.unusedVariables false
set_option maxRecDepth 1000000
namespace Go.Proofs.YthkadboeokgjnacGreatDoor
open Go.RowKit

def fm0 : Fm := ⟨false, 0⟩
/-- What a head says. -/
def RM : HdM := fun h =>
  let L := Lib.split h [13, 10]
  if L.any bad then (Rq.nil, fm0, 400)
  else if (rfM (L.getD 0 [])).2.2 ≠ 0 then (Rq.nil, fm0, (rfM (L.getD 0 [])).2.2)
  else if (rhM (L.drop 1) []).2 ≠ 0 then (Rq.nil, fm0, (rhM (L.drop 1) []).2)
  else if (fmM (vals wTE (rhM (L.drop 1) []).1) (vals wHost (rhM (L.drop 1) []).1) (vals wCL (rhM (L.drop 1) []).1)).2 ≠ 0 then (Rq.nil, fm0, (fmM (vals wTE (rhM (L.drop 1) []).1) (vals wHost (rhM (L.drop 1) []).1) (vals wCL (rhM (L.drop 1) []).1)).2)
  else (⟨(rfM (L.getD 0 [])).1, (rfM (L.getD 0 [])).2.1, (rhM (L.drop 1) []).1, []⟩, (fmM (vals wTE (rhM (L.drop 1) []).1) (vals wHost (rhM (L.drop 1) []).1) (vals wCL (rhM (L.drop 1) []).1)).1, 0)
theorem rfM_st (l : List UInt8) : (rfM l).2.2 ≠ 1 := by
  unfold rfM
  repeat' split
  all_goals simp
theorem fmM_ok (a b c : List (List UInt8)) : (fmM a b c).1.n ≤ 32768 ∧ (fmM a b c).2 ≠ 1 := by
  unfold fmM
  repeat' split
  all_goals simp
  all_goals omega
theorem rhM_st : ∀ (L : List (List UInt8)) (acc : List Hd), (rhM L acc).2 ≠ 1
  | [], acc => by simp [rhM]
  | l :: L, acc => by
    unfold rhM
    split
    · simp
    · split
      · exact rhM_st L _
      · simp
theorem fld_len (l : List UInt8) (h : Hd) (e : fldM l = some h) : h.1.length ≤ l.length ∧ h.2.length ≤ l.length := by
  unfold fldM at e
  split at e
  · cases e
    have := cut_len l [58]
    exact ⟨by simp [sm]; exact this.1, Nat.le_trans (trm_len _) this.2⟩
  · cases e
theorem rhM_S (N : Nat) : ∀ (L : List (List UInt8)) (acc : List Hd), (∀ x ∈ L, x.length ≤ N) → (∀ h ∈ acc, h.1.length ≤ N ∧ h.2.length ≤ N) → acc.length ≤ 32 → (∀ h ∈ (rhM L acc).1, h.1.length ≤ N ∧ h.2.length ≤ N) ∧ (rhM L acc).1.length ≤ 32
  | [], acc, _, ha, hl => ⟨ha, hl⟩
  | l :: L, acc, hx, ha, hl => by
    unfold rhM
    split
    · simp
    · rename_i h32
      split
      · rename_i h he
        refine rhM_S N L _ (fun x hx2 => hx x (by simp [hx2])) ?_ (by simp; omega)
        intro y hy
        rcases List.mem_append.1 hy with h1 | h1
        · exact ha y h1
        · obtain rfl := List.mem_singleton.1 h1
          have := fld_len l y he
          have hl2 := hx l (by simp)
          omega
      · simp
theorem rok_RM : Rok RM := by
  intro h
  unfold RM
  simp only
  repeat' split
  all_goals (refine ⟨?_, ?_, ?_⟩ <;> first | rfl | (simp [fm0]; done) | exact rfM_st _ | exact rhM_st _ _ | exact (fmM_ok _ _ _).1 | exact (fmM_ok _ _ _).2)
def EnvH (w : World) : Prop := Mx w ∧ Sx w
def BH : Nat := max 0 3 + 1
theorem EnvH.le {w : World} (h : EnvH w) : BH ≤ w.heap.size := by
  obtain ⟨⟨m, hm⟩, ⟨a, b, hs⟩⟩ := h
  have h1 := World.block_lt_of_cell? w _ hm
  have h2 := World.block_lt_of_cell? w _ hs
  simp only at h1 h2
  unfold BH
  omega
theorem ek_envH : EK EnvH BH := by
  intro w w' h hB hk
  obtain ⟨⟨m, hm⟩, ⟨a, b, hs⟩⟩ := h
  have e1 : w'.heap[0]? = w.heap[0]? := hk _ (by unfold BH; omega)
  have e2 : w'.heap[3]? = w.heap[3]? := hk _ (by unfold BH; omega)
  exact ⟨⟨m, by rw [← hm]; simp only [World.cell?, e1]⟩, ⟨a, b, by rw [← hs]; simp only [World.cell?, e2]⟩⟩
#print axioms ek_envH
/-- The two blocks of a result that is nothing. -/
structure Res0 (w wx : World) : Prop where
  below : Below w.heap.size w wx
  r : wx.heap[w.heap.size]? = some (.cells #[.string ⟨#[]⟩, .string ⟨#[]⟩, .slice none 0 0, .slice none 0 0] 30 (0, 0))
  f : wx.heap[w.heap.size + 1]? = some (.cells #[.bool false, .int .i64 0] 57 (0, 0))
theorem Res0.go {w wx wy : World} (h : Res0 w wx) (hb : Below wx.heap.size wx wy) : Res0 w wy :=
  ⟨h.below.trans (hb.mono h.below.size), (hb.block _ (Array.getElem?_eq_some_iff.1 h.r).1).trans h.r, (hb.block _ (Array.getElem?_eq_some_iff.1 h.f).1).trans h.f⟩
end Go.Proofs.YthkadboeokgjnacGreatDoor
