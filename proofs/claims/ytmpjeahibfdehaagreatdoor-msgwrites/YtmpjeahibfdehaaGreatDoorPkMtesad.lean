/-
  THE LIBRARY's bytes.Clone, slices.Clone, bytes.Equal, told of lists of bytes; the text of a list of bytes.
-/
import Derived.Test.YtmpjeahibfdehaaGreatDoorPkMtesac
import Derived.WalkSpells
import Derived.WalkLawsBesides
import Derived.Lib.SliceRun
section
set_option linter.unusedVariables false
namespace Go.Proofs.YtmpjeahibfdehaaGreatDoor
open Go.RowKit

/-- The text that a list of bytes is. -/
def str (l : List UInt8) : ByteArray := ⟨l.toArray⟩
theorem str_size (l : List UInt8) : (str l).size = l.length := by simp [str, ByteArray.size]

theorem run_str (w : World) (a : Option Addr) (n cap : Nat) (l : List UInt8) (hr : Row w a l) (hn : n = l.length) :
  (convert 80 9 (.slice a n cap)).run Tryz.prog w = .ok (.string (str l)) w := by
 subst hn
 by_cases h : l = []
 ·subst h
  cases a with
  | none => exact run_convert_bytes_nil w 80 5 Tryz.underlying80 Tryz.underlying5 0 cap 9 Tryz.underlying9
  | some ad =>
   show (convert 80 9 (.slice (some ad) 0 cap)).run Tryz.prog w = _
   rw [run_convert_bytes_string w 80 9 5 _ 0 cap Tryz.underlying80 Tryz.underlying5 Tryz.underlying9, run_bytesToString w ad 0 cap [] (by
    have := run_loadCells_list (P := Tryz.prog) w ad [] (fun j v hj => by simp at hj)
    simpa using this)]
   rfl
 ·obtain ⟨b, off, rfl, hc⟩ := hr h
  have e := run_convert_bytes_arg (P := Tryz.prog) w 80 5 Tryz.underlying80 Tryz.underlying5 b off l.length cap (l.map fun c => (c.toNat : Int)) (by simp) (by
   intro i hi
   rw [hc i hi]
   simp [hi]) 9 Tryz.underlying9
  rw [e]
  have e2 : strOfNums (l.map fun c => (c.toNat : Int)) = str l := by
   have h : (l.map fun c => (c.toNat : Int)).map (fun n : Int => UInt8.ofNat n.toNat) = l := by
    rw [List.map_map]
    have : ((fun n : Int => UInt8.ofNat n.toNat) ∘ fun c : UInt8 => (c.toNat : Int)) = id := by
     funext c
     simp
    rw [this, List.map_id]
   unfold strOfNums str
   rw [h]
  rw [e2]

theorem toList_str (l : List UInt8) : (str l).toList = l := by
 rw [ByteArray.toList_eq]
 rfl

end Go.Proofs.YtmpjeahibfdehaaGreatDoor
end
