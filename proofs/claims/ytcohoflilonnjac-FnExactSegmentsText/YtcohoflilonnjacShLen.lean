/- The library's contract of strings.Builder's Len, laid over this program's numbers. -/
import Derived.Test.YtcohoflilonnjacShBuild
namespace Go.Proofs.Ytcohoflilonnjac
open Go.Shelf Go.RowKit
def renL : Go.Shelf.Ren := ⟨fun | 170 => 54 | n => n, fun | 0 => 0 | 3 => 3 | 37 => 69 | 70 => 71 | 72 => 73 | 5 => 5 | n => n, fun | n => n⟩
theorem laysLen : Go.Proofs.Lays.n170 Try.prog renL := {
  mixed := by kernel_rfl
  f170 := Try.func54.trans (congrArg some (by kernel_rfl))
  t0 := Try.underlying0
  a0 := Try.isAgg0
  z0 := Try.sizeOf0
  v0 := Try.zeroValue0
  t3 := Try.underlying3
  a3 := Try.isAgg3
  z3 := Try.sizeOf3
  v3 := Try.zeroValue3
  t37 := Try.underlying69
  a37 := Try.isAgg69
  z37 := Try.sizeOf69
  v37 := Try.zeroValue69
  t70 := Try.underlying71
  a70 := Try.isAgg71
  z70 := Try.sizeOf71
  v70 := Try.zeroValue71
  t72 := Try.underlying73
  a72 := Try.isAgg73
  z72 := Try.sizeOf73
  v72 := Try.zeroValue73 }
theorem len_any (B b : Nat) (bs : List Value) (w : World) (h : Lib.IsBuilder 73 5 B b bs w) :
    Calls Try.prog 54 #[.pointer (some ⟨b, 0, none⟩)] w fun e w' => e = .returned (.int .i64 bs.length) ∧ w' = w := Any.Builder_Len laysLen B b bs w h
end Go.Proofs.Ytcohoflilonnjac
