/- The library's contract of slices.Clone at lists of texts, laid over this program's numbers. -/
import Derived.Shelf.Slices.Clone
import Derived.Test.YtbdjaohfnbnacaaBase
namespace Go.Proofs.Ytbdjaohfnbnacaa
open Go.Shelf Go.RowKit Go.Lib
def renCl : Go.Shelf.Ren := ⟨fun | 16 => 61 | n => n, fun | 24 => 72 | 9 => 9 | 4 => 4 | n => n, fun | n => n⟩
theorem laysCl : Go.Proofs.Lays2.n16 Try.prog renCl := {
  mixed := by kernel_rfl
  f16 := Try.func61.trans (congrArg some (by kernel_rfl))
  t4 := Try.underlying4
  a4 := Try.isAgg4
  z4 := Try.sizeOf4
  v4 := Try.zeroValue4
  t9 := Try.underlying9
  a9 := Try.isAgg9
  z9 := Try.sizeOf9
  v9 := Try.zeroValue9
  t24 := Try.underlying72
  a24 := Try.isAgg72
  z24 := Try.sizeOf72
  v24 := Try.zeroValue72
  i9 := by kernel_rfl }
theorem cloneS_any (b off n c : Nat) (zs : List ByteArray) (w : World) (hz : n ≤ zs.length) (hbig : n * 16 ≤ 140737488355328) (hc : ∀ j, j < zs.length → w.cell? ⟨b, off + j, none⟩ = some (.string (zs.getD j ByteArray.empty))) :
    Calls Try.prog 61 #[.slice (some ⟨b, off, none⟩) n c] w fun e w' => ∃ v', e = .returned v' ∧ w'.ownsRow w.heap.size 9 1 v' n ((zs.take n).map (Value.string)) ∧ v' ≠ .slice none 0 0 ∧ Below w.heap.size w w' := Any.slices_Clone_string laysCl b off n c zs w hz hbig hc
end Go.Proofs.Ytbdjaohfnbnacaa
