/-
  wsock: strings.ReplaceAll of one byte by another, wherever it stands.
-/
import Derived.Test.YtegbcjfceooflaaDoorPkWptsao
import Derived.Test.YtegbcjfceooflaaDoorPkWptsaq
import Derived.Lib.SplitLaws
import Derived.Lib.IndexBytes
section
set_option linter.unusedVariables false
set_option maxRecDepth 1000000
namespace Go.Proofs.YtegbcjfceooflaaDoor
open Go.RowKit

theorem ix_eq (c : UInt8) (l : List UInt8) : Lib.index (c :: l) [c] = 0 := by
  unfold Lib.index
  simp [List.isPrefixOf]
theorem ix_ne (b c : UInt8) (l : List UInt8) (h : b ≠ c) : Lib.index (b :: l) [c] = if Lib.index l [c] = -1 then -1 else Lib.index l [c] + 1 := by
  have : ([c].isPrefixOf (b :: l)) = false := by simp [List.isPrefixOf, Ne.symm h]
  rw [Lib.index, if_neg (by rw [this]; decide)]
  by_cases e : Lib.index l [c] = -1
  · rw [if_pos e, if_pos (by simpa using e)]
  · rw [if_neg e, if_neg (by simpa using e)]
theorem rk_eq (c : UInt8) (new : List UInt8) (k : Nat) (l : List UInt8) : Lib.replaceK [c] new (k + 1) (c :: l) = new ++ Lib.replaceK [c] new k l := by
  rw [Lib.replaceK_hit [c] new k (c :: l) 0 (ix_eq c l)]
  rfl
theorem rk_ne (b c : UInt8) (new : List UInt8) (h : b ≠ c) (k : Nat) (l : List UInt8) : Lib.replaceK [c] new k (b :: l) = b :: Lib.replaceK [c] new k l := by
  cases k with
  | zero => rfl
  | succ k =>
    by_cases e : Lib.index l [c] = -1
    · rw [Lib.replaceK, Lib.replaceK, ix_ne b c l h, if_pos e, if_pos (by rfl), if_pos (by rw [e]; rfl)]
    · have hg := Lib.index_ge l [c]
      obtain ⟨i, hi⟩ : ∃ i : Nat, Lib.index l [c] = i := ⟨(Lib.index l [c]).toNat, by omega⟩
      rw [Lib.replaceK_hit [c] new k l i hi, Lib.replaceK_hit [c] new k (b :: l) (i + 1) (by rw [ix_ne b c l h, if_neg e, hi]; omega)]
      rw [show i + 1 + [c].length = (i + [c].length) + 1 by omega]
      simp
theorem rk_all (c d : UInt8) : ∀ l : List UInt8, Lib.replaceK [c] [d] (l.count c) l = l.map (fun x => if x = c then d else x)
  | [] => rfl
  | b :: l => by
    by_cases h : b = c
    · subst h
      rw [List.count_cons_self, rk_eq, rk_all b d l]
      simp
    · rw [List.count_cons_of_ne (by simpa using h), rk_ne b c [d] h, rk_all c d l]
      simp [h]
theorem ra_all (c d : UInt8) (hcd : c ≠ d) (l : List UInt8) : Lib.replaceAll l [c] [d] = l.map (fun x => if x = c then d else x) := by
  unfold Lib.replaceAll Lib.replace Lib.replaceNum
  rw [if_neg (by simpa using hcd), if_pos (.inl (by decide)), Lib.count_one, rk_all]

/-- internal/bytealg.MaxLen is a number. -/
def Mx (w : World) : Prop := ∃ m : Int, w.cell? ⟨2, 0, none⟩ = some (.int .i64 m)
theorem Mx.below {w w' : World} {B : Nat} (h : Mx w) (hb : Below B w w') (hB : w.heap.size ≤ B) : Mx w' := by
  obtain ⟨m, hm⟩ := h
  exact ⟨m, by rw [hb.cell (Nat.lt_of_lt_of_le (World.block_lt_of_cell? w _ hm) hB)]; exact hm⟩

theorem x155 : Builder.Extra Tryd.prog Tryd.lays155_ren where
  sizeBuilder := by kernel_rfl
  liesBuilder := by kernel_rfl
  t5 := by kernel_rfl
  a5 := fun w => by kernel_rfl
  z5 := fun w => by kernel_rfl
  v5 := fun w => by kernel_rfl
  infoByte := by kernel_rfl
  cellsByte := by kernel_rfl
  sizeByte := by kernel_rfl
  neB5 := by decide

theorem repl_any (c d : UInt8) (hcd : c ≠ d) (l : List UInt8) (w : World) (hl : l.length ≤ 1000000) (hm : Mx w) :
    Calls Tryd.prog 33 #[.string (str l), .string ⟨#[c]⟩, .string ⟨#[d]⟩] w fun e w' => e = .returned (.string (str (l.map (fun x => if x = c then d else x)))) ∧ Below w.heap.size w w' := by
  obtain ⟨m, hm⟩ := hm
  have hc : Lib.countB (str l) ⟨#[c]⟩ ≤ l.length := by
    show Lib.count l [c] ≤ _
    rw [Lib.count_one]
    exact List.count_le_length
  have hd : (⟨#[d]⟩ : ByteArray).size = 1 := rfl
  have h := Any.strings_ReplaceAll (ρ := Tryd.lays155_ren) Tryd.lays155 x155 (str l) ⟨#[c]⟩ ⟨#[d]⟩ m w (by rw [str_size]; omega) hm (Nat.le_refl _) (by rw [str_size, hd]; omega)
  refine h.mono ?_
  rintro e w' ⟨rfl, hb⟩
  refine ⟨?_, hb⟩
  have : (Lib.replaceAll (str l).data.toList (⟨#[c]⟩ : ByteArray).data.toList (⟨#[d]⟩ : ByteArray).data.toList) = l.map (fun x => if x = c then d else x) := ra_all c d hcd l
  rw [this]
  rfl
#print axioms repl_any
end Go.Proofs.YtegbcjfceooflaaDoor
end
