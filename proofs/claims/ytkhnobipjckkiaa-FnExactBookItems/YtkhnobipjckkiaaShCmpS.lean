/- The library's contract of slices.Compact at texts, laid over this program's numbers. -/
import Derived.Shelf.SlicesG.CompactS
import Derived.Test.YtkhnobipjckkiaaRet
namespace Go.Proofs.Ytkhnobipjckkiaa
open Go.Shelf Go.RowKit Go.Lib
def laysCompactS_ren : Go.Shelf.Ren := ⟨fun | 44 => 57 | n => n, fun | 25 => 42 | 26 => 9 | 3 => 3 | 4 => 4 | 0 => 0 | n => n, fun | n => n⟩
theorem laysCompactS : Go.Proofs.SlLaysN.n44 Try.prog laysCompactS_ren := {
  mixed := by kernel_rfl
  f44 := ⟨Try.f57.name, by decide, Try.func57.trans (congrArg some (by kernel_rfl))⟩
  t0 := Try.underlying0
  a0 := Try.isAgg0
  z0 := Try.sizeOf0
  v0 := Try.zeroValue0
  t3 := Try.underlying3
  a3 := Try.isAgg3
  z3 := Try.sizeOf3
  v3 := Try.zeroValue3
  t4 := Try.underlying4
  a4 := Try.isAgg4
  z4 := Try.sizeOf4
  v4 := Try.zeroValue4
  t25 := Try.underlying42
  a25 := Try.isAgg42
  z25 := Try.sizeOf42
  v25 := Try.zeroValue42
  t26 := Try.underlying9
  a26 := Try.isAgg9
  z26 := Try.sizeOf9
  v26 := Try.zeroValue9
  i26 := by kernel_rfl }
end Go.Proofs.Ytkhnobipjckkiaa
