/- The lock: under which numbers the program holds package sync's functions and types. -/
import Derived.Test.YtgmahgfelbkoeaaDoorProg
import Derived.Conc.MuLone
import Derived.Conc.MuData
import Derived.KernelRfl
namespace Go.Proofs.YtgmahgfelbkoeaaDoor

abbrev muLink : Go.Conc.Locks.MuLink := { lock := 26, unlock := 27, ilock := 44, iunlock := 45, lockSlow := 64, unlockSlow := 67, disable := 60, enable := 62, acquire := 63, relMerge := 65, cas32 := 61, add32 := 66, tMutex := 53, tIMutex := 51, tPMutex := 88, tPIMutex := 98, tPI32 := 100, tUP := 102, tNoCopy := 48, tU32 := 49 }
theorem muLib : Go.Conc.Locks.MuLib Tryd.prog muLink :=
  ⟨Tryd.func26, Tryd.func27, Tryd.func44, Tryd.func45, Tryd.func60, Tryd.func62, Tryd.func63, Tryd.func65, Tryd.func61, Tryd.func66, Tryd.underlying51, Tryd.runUnderlying51, Tryd.sizeOf51, Tryd.isAgg51, Tryd.zeroValue51, Tryd.underlying53, Tryd.runUnderlying53, Tryd.sizeOf53, Tryd.isAgg53, Tryd.zeroValue53, Tryd.underlying88, Tryd.runUnderlying88, Tryd.sizeOf88, Tryd.isAgg88, Tryd.zeroValue88, Tryd.underlying98, Tryd.runUnderlying98, Tryd.sizeOf98, Tryd.isAgg98, Tryd.zeroValue98, Tryd.underlying100, Tryd.runUnderlying100, Tryd.sizeOf100, Tryd.isAgg100, Tryd.zeroValue100, Tryd.underlying102, Tryd.runUnderlying102, Tryd.sizeOf102, Tryd.isAgg102, Tryd.zeroValue102, Tryd.underlying48, Tryd.runUnderlying48, Tryd.sizeOf48, Tryd.isAgg48, Tryd.zeroValue48, Tryd.underlying21, Tryd.runUnderlying21, Tryd.sizeOf21, Tryd.isAgg21, Tryd.zeroValue21, (by kernel_rfl)⟩

end Go.Proofs.YtgmahgfelbkoeaaDoor
