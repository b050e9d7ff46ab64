/-
  The laying of maps.DeleteFunc at the dump of Ytohlmfiicfoimaa, in plain words: laid by the shelf's lay-plain.mjs; at another seat lay it anew (dfl.sh).
-/
import Derived.Shelf.SlMaps.DeleteFunc
import Derived.Ground.SlmdProg
import Derived.Test.YtohlmfiicfoimaaProg
namespace Go.Proofs
open Go.Shelf
def Try.delF_ren : Go.Shelf.Ren := ⟨fun | 5 => 40 | n => n, fun | 23 => 57 | 26 => 3 | 24 => 68 | 27 => 74 | 0 => 0 | 4 => 4 | n => n, fun | n => n⟩
theorem Try.delF : Go.Proofs.SlLaysDf.n5 Try.prog Try.delF_ren := {
  mixed := by kernel_rfl
  f5 := ⟨Try.f40.name, by decide, Try.func40.trans (congrArg some (by kernel_rfl))⟩
  t0 := Try.underlying0
  a0 := Try.isAgg0
  z0 := Try.sizeOf0
  v0 := Try.zeroValue0
  t4 := Try.underlying4
  a4 := Try.isAgg4
  z4 := Try.sizeOf4
  v4 := Try.zeroValue4
  t23 := Try.underlying57
  a23 := Try.isAgg57
  z23 := Try.sizeOf57
  v23 := Try.zeroValue57
  a24 := Try.isAgg68
  z24 := Try.sizeOf68
  a26 := Try.isAgg3
  z26 := Try.sizeOf3
  t27 := Try.underlying74
  a27 := Try.isAgg74
  z27 := Try.sizeOf74
  v27 := Try.zeroValue74 }
end Go.Proofs
