/- The library's contract of strings.Builder's Len, laid over this program's numbers. -/
import Derived.Test.YtbdjaohfnbnacaaShBuild
namespace Go.Proofs.Ytbdjaohfnbnacaa
open Go.Shelf Go.RowKit
def renL : Go.Shelf.Ren := ⟨fun | 170 => 18 | n => n, fun | 0 => 0 | 3 => 3 | 37 => 22 | 70 => 46 | 72 => 48 | 5 => 5 | n => n, fun | n => n⟩
theorem laysLen : Go.Proofs.Lays.n170 Try.prog renL := {
  mixed := by kernel_rfl
  f170 := Try.func18.trans (congrArg some (by kernel_rfl))
  t0 := Try.underlying0
  a0 := Try.isAgg0
  z0 := Try.sizeOf0
  v0 := Try.zeroValue0
  t3 := Try.underlying3
  a3 := Try.isAgg3
  z3 := Try.sizeOf3
  v3 := Try.zeroValue3
  t37 := Try.underlying22
  a37 := Try.isAgg22
  z37 := Try.sizeOf22
  v37 := Try.zeroValue22
  t70 := Try.underlying46
  a70 := Try.isAgg46
  z70 := Try.sizeOf46
  v70 := Try.zeroValue46
  t72 := Try.underlying48
  a72 := Try.isAgg48
  z72 := Try.sizeOf48
  v72 := Try.zeroValue48 }
theorem len_any (B b : Nat) (bs : List Value) (w : World) (h : Lib.IsBuilder 48 5 B b bs w) :
    Calls Try.prog 18 #[.pointer (some ⟨b, 0, none⟩)] w fun e w' => e = .returned (.int .i64 bs.length) ∧ w' = w := Any.Builder_Len laysLen B b bs w h
end Go.Proofs.Ytbdjaohfnbnacaa
