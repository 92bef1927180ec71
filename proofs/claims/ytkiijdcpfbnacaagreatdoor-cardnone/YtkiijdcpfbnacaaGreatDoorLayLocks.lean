/-
  The numbers under which this program holds the library's lock, and that it holds it. No condition.
-/
import Derived.Test.YtkiijdcpfbnacaaGreatDoorProg
import Derived.Conc.MuLib
import Derived.KernelRfl
namespace Go.Proofs
abbrev Tryz.muLink : Go.Conc.Locks.MuLink := { lock := 16, unlock := 17, ilock := 25, iunlock := 26, lockSlow := 41, unlockSlow := 44, disable := 37, enable := 39, acquire := 40, relMerge := 42, cas32 := 38, add32 := 43, tMutex := 30, tIMutex := 28, tPMutex := 81, tPIMutex := 112, tPI32 := 114, tUP := 116, tNoCopy := 25, tU32 := 26 }
theorem Tryz.muLib : Go.Conc.Locks.MuLib Tryz.prog Tryz.muLink :=
  ⟨Tryz.func16, Tryz.func17, Tryz.func25, Tryz.func26, Tryz.func37, Tryz.func39, Tryz.func40, Tryz.func42, Tryz.func38, Tryz.func43, Tryz.underlying28, Tryz.runUnderlying28, Tryz.sizeOf28, Tryz.isAgg28, Tryz.zeroValue28, Tryz.underlying30, Tryz.runUnderlying30, Tryz.sizeOf30, Tryz.isAgg30, Tryz.zeroValue30, Tryz.underlying81, Tryz.runUnderlying81, Tryz.sizeOf81, Tryz.isAgg81, Tryz.zeroValue81, Tryz.underlying112, Tryz.runUnderlying112, Tryz.sizeOf112, Tryz.isAgg112, Tryz.zeroValue112, Tryz.underlying114, Tryz.runUnderlying114, Tryz.sizeOf114, Tryz.isAgg114, Tryz.zeroValue114, Tryz.underlying116, Tryz.runUnderlying116, Tryz.sizeOf116, Tryz.isAgg116, Tryz.zeroValue116, Tryz.underlying25, Tryz.runUnderlying25, Tryz.sizeOf25, Tryz.isAgg25, Tryz.zeroValue25, Tryz.underlying21, Tryz.runUnderlying21, Tryz.sizeOf21, Tryz.isAgg21, Tryz.zeroValue21, (by kernel_rfl)⟩
end Go.Proofs
