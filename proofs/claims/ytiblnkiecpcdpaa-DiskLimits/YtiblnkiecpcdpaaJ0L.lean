/- The lock: under which numbers the program holds package sync's functions and types. -/
import Derived.Test.YtiblnkiecpcdpaaProg
import Derived.Conc.MuLone
import Derived.Conc.MuData
import Derived.KernelRfl
namespace Go.Proofs.Ytiblnkiecpcdpaa

abbrev muLink : Go.Conc.Locks.MuLink := { lock := 34, unlock := 35, ilock := 55, iunlock := 56, lockSlow := 69, unlockSlow := 72, disable := 65, enable := 67, acquire := 68, relMerge := 70, cas32 := 66, add32 := 71, tMutex := 70, tIMutex := 68, tPMutex := 96, tPIMutex := 104, tPI32 := 106, tUP := 108, tNoCopy := 65, tU32 := 66 }
theorem muLib : Go.Conc.Locks.MuLib Try.prog muLink :=
  ⟨Try.func34, Try.func35, Try.func55, Try.func56, Try.func65, Try.func67, Try.func68, Try.func70, Try.func66, Try.func71, Try.underlying68, Try.runUnderlying68, Try.sizeOf68, Try.isAgg68, Try.zeroValue68, Try.underlying70, Try.runUnderlying70, Try.sizeOf70, Try.isAgg70, Try.zeroValue70, Try.underlying96, Try.runUnderlying96, Try.sizeOf96, Try.isAgg96, Try.zeroValue96, Try.underlying104, Try.runUnderlying104, Try.sizeOf104, Try.isAgg104, Try.zeroValue104, Try.underlying106, Try.runUnderlying106, Try.sizeOf106, Try.isAgg106, Try.zeroValue106, Try.underlying108, Try.runUnderlying108, Try.sizeOf108, Try.isAgg108, Try.zeroValue108, Try.underlying65, Try.runUnderlying65, Try.sizeOf65, Try.isAgg65, Try.zeroValue65, Try.underlying21, Try.runUnderlying21, Try.sizeOf21, Try.isAgg21, Try.zeroValue21, (by kernel_rfl)⟩

end Go.Proofs.Ytiblnkiecpcdpaa
