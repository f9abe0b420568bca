/- Texts of ours put together: ShCmpS. -/
import Derived.Shelf.SlicesG.CompactS
import Derived.Test.YtjmkdpnoihpfoaaGreatDoorG00
namespace Go.Proofs.YtjmkdpnoihpfoaaGreatDoor
open Go.Shelf Go.RowKit Go.Lib
def laysCompactS_ren : Go.Shelf.Ren := ⟨fun | 44 => 57 | n => n, fun | 25 => 38 | 26 => 9 | 3 => 3 | 4 => 4 | 0 => 0 | n => n, fun | n => n⟩
theorem laysCompactS : Go.Proofs.SlLaysN.n44 Tryz.prog laysCompactS_ren := {
  mixed := by kernel_rfl
  f44 := ⟨Tryz.f57.name, by decide, Tryz.func57.trans (congrArg some (by kernel_rfl))⟩
  t0 := Tryz.underlying0
  a0 := Tryz.isAgg0
  z0 := Tryz.sizeOf0
  v0 := Tryz.zeroValue0
  t3 := Tryz.underlying3
  a3 := Tryz.isAgg3
  z3 := Tryz.sizeOf3
  v3 := Tryz.zeroValue3
  t4 := Tryz.underlying4
  a4 := Tryz.isAgg4
  z4 := Tryz.sizeOf4
  v4 := Tryz.zeroValue4
  t25 := Tryz.underlying38
  a25 := Tryz.isAgg38
  z25 := Tryz.sizeOf38
  v25 := Tryz.zeroValue38
  t26 := Tryz.underlying9
  a26 := Tryz.isAgg9
  z26 := Tryz.sizeOf9
  v26 := Tryz.zeroValue9
  i26 := by kernel_rfl }
end Go.Proofs.YtjmkdpnoihpfoaaGreatDoor
