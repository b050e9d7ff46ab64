/-
  kvstore: the lock's functions and types at this dump.
-/
import Derived.Test.YtmcgghjeocnpnaaGreatDoorProg
import Derived.Conc.RwLib
import Derived.Conc.MuData
import Derived.Conc.MuLone
import Derived.KernelRfl
section
namespace Go.Proofs.YtmcgghjeocnpnaaGreatDoor
abbrev muLink : Go.Conc.Locks.MuLink := { lock := 28, unlock := 29, ilock := 53, iunlock := 54, lockSlow := 83, unlockSlow := 86, disable := 79, enable := 81, acquire := 82, relMerge := 84, cas32 := 80, add32 := 85, tMutex := 67, tIMutex := 65, tPMutex := 108, tPIMutex := 136, tPI32 := 138, tUP := 140, tNoCopy := 62, tU32 := 63 }
theorem muLib : Go.Conc.Locks.MuLib Tryz.prog muLink :=
  ⟨Tryz.func28, Tryz.func29, Tryz.func53, Tryz.func54, Tryz.func79, Tryz.func81, Tryz.func82, Tryz.func84, Tryz.func80, Tryz.func85, Tryz.underlying65, Tryz.runUnderlying65, Tryz.sizeOf65, Tryz.isAgg65, Tryz.zeroValue65, Tryz.underlying67, Tryz.runUnderlying67, Tryz.sizeOf67, Tryz.isAgg67, Tryz.zeroValue67, Tryz.underlying108, Tryz.runUnderlying108, Tryz.sizeOf108, Tryz.isAgg108, Tryz.zeroValue108, Tryz.underlying136, Tryz.runUnderlying136, Tryz.sizeOf136, Tryz.isAgg136, Tryz.zeroValue136, Tryz.underlying138, Tryz.runUnderlying138, Tryz.sizeOf138, Tryz.isAgg138, Tryz.zeroValue138, Tryz.underlying140, Tryz.runUnderlying140, Tryz.sizeOf140, Tryz.isAgg140, Tryz.zeroValue140, Tryz.underlying62, Tryz.runUnderlying62, Tryz.sizeOf62, Tryz.isAgg62, Tryz.zeroValue62, Tryz.underlying21, Tryz.runUnderlying21, Tryz.sizeOf21, Tryz.isAgg21, Tryz.zeroValue21, (by kernel_rfl)⟩
#print axioms muLib
end Go.Proofs.YtmcgghjeocnpnaaGreatDoor
end
