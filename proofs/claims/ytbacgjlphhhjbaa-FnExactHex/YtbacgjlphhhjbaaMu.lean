/- The numbers under which this dump holds the lock's functions and types, and that it holds them. -/
import Derived.Test.YtbacgjlphhhjbaaFlat0
import Derived.Conc.MuLone
import Derived.KernelRfl
namespace Go.Proofs.Ytbacgjlphhhjbaa
open Go.ChangeShapes Go.WideShapes Go.ChangeAt Go.RowKit
abbrev muLink : Go.Conc.Locks.MuLink := { lock := 26, unlock := 27, ilock := 29, iunlock := 30, lockSlow := 37, unlockSlow := 40, disable := 33, enable := 35, acquire := 36, relMerge := 38, cas32 := 34, add32 := 39, tMutex := 45, tIMutex := 43, tPMutex := 72, tPIMutex := 75, tPI32 := 77, tUP := 64, tNoCopy := 37, tU32 := 39 }
theorem muLib : Go.Conc.Locks.MuLib Try.prog muLink :=
  ⟨Try.func26, Try.func27, Try.func29, Try.func30, Try.func33, Try.func35, Try.func36, Try.func38, Try.func34, Try.func39, Try.underlying43, Try.runUnderlying43, Try.sizeOf43, Try.isAgg43, Try.zeroValue43, Try.underlying45, Try.runUnderlying45, Try.sizeOf45, Try.isAgg45, Try.zeroValue45, Try.underlying72, Try.runUnderlying72, Try.sizeOf72, Try.isAgg72, Try.zeroValue72, Try.underlying75, Try.runUnderlying75, Try.sizeOf75, Try.isAgg75, Try.zeroValue75, Try.underlying77, Try.runUnderlying77, Try.sizeOf77, Try.isAgg77, Try.zeroValue77, Try.underlying64, Try.runUnderlying64, Try.sizeOf64, Try.isAgg64, Try.zeroValue64, Try.underlying37, Try.runUnderlying37, Try.sizeOf37, Try.isAgg37, Try.zeroValue37, Try.underlying21, Try.runUnderlying21, Try.sizeOf21, Try.isAgg21, Try.zeroValue21, (by kernel_rfl)⟩
end Go.Proofs.Ytbacgjlphhhjbaa
