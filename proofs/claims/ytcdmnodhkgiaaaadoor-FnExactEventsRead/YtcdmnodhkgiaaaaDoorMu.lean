/- The numbers under which this dump holds the lock's functions and types, and that it holds them. -/
import Derived.Test.YtcdmnodhkgiaaaaDoorFlat0
import Derived.Conc.MuLone
import Derived.KernelRfl
namespace Go.Proofs.YtcdmnodhkgiaaaaDoor
open Go.ChangeShapes Go.WideShapes Go.ChangeAt Go.RowKit
abbrev muLink : Go.Conc.Locks.MuLink := { lock := 80, unlock := 81, ilock := 85, iunlock := 86, lockSlow := 93, unlockSlow := 96, disable := 89, enable := 91, acquire := 92, relMerge := 94, cas32 := 90, add32 := 95, tMutex := 71, tIMutex := 69, tPMutex := 135, tPIMutex := 138, tPI32 := 140, tUP := 112, tNoCopy := 63, tU32 := 65 }
theorem muLib : Go.Conc.Locks.MuLib Tryd.prog muLink :=
  ⟨Tryd.func80, Tryd.func81, Tryd.func85, Tryd.func86, Tryd.func89, Tryd.func91, Tryd.func92, Tryd.func94, Tryd.func90, Tryd.func95, Tryd.underlying69, Tryd.runUnderlying69, Tryd.sizeOf69, Tryd.isAgg69, Tryd.zeroValue69, Tryd.underlying71, Tryd.runUnderlying71, Tryd.sizeOf71, Tryd.isAgg71, Tryd.zeroValue71, Tryd.underlying135, Tryd.runUnderlying135, Tryd.sizeOf135, Tryd.isAgg135, Tryd.zeroValue135, Tryd.underlying138, Tryd.runUnderlying138, Tryd.sizeOf138, Tryd.isAgg138, Tryd.zeroValue138, Tryd.underlying140, Tryd.runUnderlying140, Tryd.sizeOf140, Tryd.isAgg140, Tryd.zeroValue140, Tryd.underlying112, Tryd.runUnderlying112, Tryd.sizeOf112, Tryd.isAgg112, Tryd.zeroValue112, Tryd.underlying63, Tryd.runUnderlying63, Tryd.sizeOf63, Tryd.isAgg63, Tryd.zeroValue63, Tryd.underlying21, Tryd.runUnderlying21, Tryd.sizeOf21, Tryd.isAgg21, Tryd.zeroValue21, (by kernel_rfl)⟩
end Go.Proofs.YtcdmnodhkgiaaaaDoor
