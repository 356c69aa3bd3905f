/- The lock: under which numbers the program holds package sync's functions and types. -/
import Derived.Test.YtpecgmcalbojcaaDoorProg
import Derived.Conc.MuLone
import Derived.Conc.MuData
import Derived.KernelRfl
namespace Go.Proofs.YtpecgmcalbojcaaDoor

abbrev muLink : Go.Conc.Locks.MuLink := { lock := 39, unlock := 40, ilock := 60, iunlock := 61, lockSlow := 77, unlockSlow := 80, disable := 73, enable := 75, acquire := 76, relMerge := 78, cas32 := 74, add32 := 79, tMutex := 77, tIMutex := 75, tPMutex := 108, tPIMutex := 117, tPI32 := 119, tUP := 121, tNoCopy := 73, tU32 := 64 }
theorem muLib : Go.Conc.Locks.MuLib Tryd.prog muLink :=
  ⟨Tryd.func39, Tryd.func40, Tryd.func60, Tryd.func61, Tryd.func73, Tryd.func75, Tryd.func76, Tryd.func78, Tryd.func74, Tryd.func79, Tryd.underlying75, Tryd.runUnderlying75, Tryd.sizeOf75, Tryd.isAgg75, Tryd.zeroValue75, Tryd.underlying77, Tryd.runUnderlying77, Tryd.sizeOf77, Tryd.isAgg77, Tryd.zeroValue77, Tryd.underlying108, Tryd.runUnderlying108, Tryd.sizeOf108, Tryd.isAgg108, Tryd.zeroValue108, Tryd.underlying117, Tryd.runUnderlying117, Tryd.sizeOf117, Tryd.isAgg117, Tryd.zeroValue117, Tryd.underlying119, Tryd.runUnderlying119, Tryd.sizeOf119, Tryd.isAgg119, Tryd.zeroValue119, Tryd.underlying121, Tryd.runUnderlying121, Tryd.sizeOf121, Tryd.isAgg121, Tryd.zeroValue121, Tryd.underlying73, Tryd.runUnderlying73, Tryd.sizeOf73, Tryd.isAgg73, Tryd.zeroValue73, Tryd.underlying21, Tryd.runUnderlying21, Tryd.sizeOf21, Tryd.isAgg21, Tryd.zeroValue21, (by kernel_rfl)⟩

end Go.Proofs.YtpecgmcalbojcaaDoor
