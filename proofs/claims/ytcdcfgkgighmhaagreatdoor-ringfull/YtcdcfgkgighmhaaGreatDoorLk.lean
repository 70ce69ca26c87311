import Derived.Test.YtcdcfgkgighmhaaGreatDoorProg
import Derived.Conc.MuLone
import Derived.KernelRfl
namespace Go.Proofs.YtcdcfgkgighmhaaGreatDoor

/-- The lock's functions and types, by number. -/
abbrev muLink : Go.Conc.Locks.MuLink := { lock := 10, unlock := 11, ilock := 26, iunlock := 27, lockSlow := 38, unlockSlow := 41, disable := 34, enable := 36, acquire := 37, relMerge := 39, cas32 := 35, add32 := 40, tMutex := 37, tIMutex := 35, tPMutex := 70, tPIMutex := 84, tPI32 := 86, tUP := 88, tNoCopy := 32, tU32 := 33 }
theorem muLib : Go.Conc.Locks.MuLib Tryz.prog muLink :=
  ⟨Tryz.func10, Tryz.func11, Tryz.func26, Tryz.func27, Tryz.func34, Tryz.func36, Tryz.func37, Tryz.func39, Tryz.func35, Tryz.func40, Tryz.underlying35, Tryz.runUnderlying35, Tryz.sizeOf35, Tryz.isAgg35, Tryz.zeroValue35, Tryz.underlying37, Tryz.runUnderlying37, Tryz.sizeOf37, Tryz.isAgg37, Tryz.zeroValue37, Tryz.underlying70, Tryz.runUnderlying70, Tryz.sizeOf70, Tryz.isAgg70, Tryz.zeroValue70, Tryz.underlying84, Tryz.runUnderlying84, Tryz.sizeOf84, Tryz.isAgg84, Tryz.zeroValue84, Tryz.underlying86, Tryz.runUnderlying86, Tryz.sizeOf86, Tryz.isAgg86, Tryz.zeroValue86, Tryz.underlying88, Tryz.runUnderlying88, Tryz.sizeOf88, Tryz.isAgg88, Tryz.zeroValue88, Tryz.underlying32, Tryz.runUnderlying32, Tryz.sizeOf32, Tryz.isAgg32, Tryz.zeroValue32, Tryz.underlying21, Tryz.runUnderlying21, Tryz.sizeOf21, Tryz.isAgg21, Tryz.zeroValue21, (by kernel_rfl)⟩

end Go.Proofs.YtcdcfgkgighmhaaGreatDoor
