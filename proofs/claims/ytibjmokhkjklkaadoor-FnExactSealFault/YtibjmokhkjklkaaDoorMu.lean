/- The numbers under which this dump holds the lock's functions and types, and that it holds them. -/
import Derived.Test.YtibjmokhkjklkaaDoorFlat0
import Derived.Conc.MuLone
import Derived.KernelRfl
namespace Go.Proofs.YtibjmokhkjklkaaDoor
open Go.ChangeShapes Go.WideShapes Go.ChangeAt Go.RowKit
abbrev muLink : Go.Conc.Locks.MuLink := { lock := 74, unlock := 75, ilock := 77, iunlock := 78, lockSlow := 85, unlockSlow := 88, disable := 81, enable := 83, acquire := 84, relMerge := 86, cas32 := 82, add32 := 87, tMutex := 79, tIMutex := 77, tPMutex := 122, tPIMutex := 125, tPI32 := 127, tUP := 112, tNoCopy := 71, tU32 := 73 }
theorem muLib : Go.Conc.Locks.MuLib Tryd.prog muLink :=
  ⟨Tryd.func74, Tryd.func75, Tryd.func77, Tryd.func78, Tryd.func81, Tryd.func83, Tryd.func84, Tryd.func86, Tryd.func82, Tryd.func87, Tryd.underlying77, Tryd.runUnderlying77, Tryd.sizeOf77, Tryd.isAgg77, Tryd.zeroValue77, Tryd.underlying79, Tryd.runUnderlying79, Tryd.sizeOf79, Tryd.isAgg79, Tryd.zeroValue79, Tryd.underlying122, Tryd.runUnderlying122, Tryd.sizeOf122, Tryd.isAgg122, Tryd.zeroValue122, Tryd.underlying125, Tryd.runUnderlying125, Tryd.sizeOf125, Tryd.isAgg125, Tryd.zeroValue125, Tryd.underlying127, Tryd.runUnderlying127, Tryd.sizeOf127, Tryd.isAgg127, Tryd.zeroValue127, Tryd.underlying112, Tryd.runUnderlying112, Tryd.sizeOf112, Tryd.isAgg112, Tryd.zeroValue112, Tryd.underlying71, Tryd.runUnderlying71, Tryd.sizeOf71, Tryd.isAgg71, Tryd.zeroValue71, Tryd.underlying21, Tryd.runUnderlying21, Tryd.sizeOf21, Tryd.isAgg21, Tryd.zeroValue21, (by kernel_rfl)⟩
end Go.Proofs.YtibjmokhkjklkaaDoor
