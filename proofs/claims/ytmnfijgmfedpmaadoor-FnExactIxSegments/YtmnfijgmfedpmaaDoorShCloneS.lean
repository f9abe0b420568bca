/- The library's contract of slices.Clone at lists of texts, laid over this program's numbers. -/
import Derived.Shelf.Slices.Clone
import Derived.Test.YtmnfijgmfedpmaaDoorRet
namespace Go.Proofs.YtmnfijgmfedpmaaDoor
open Go.Shelf Go.RowKit Go.Lib
def renCl : Go.Shelf.Ren := ⟨fun | 16 => 99 | n => n, fun | 24 => 61 | 9 => 9 | 4 => 4 | n => n, fun | n => n⟩
theorem laysCl : Go.Proofs.Lays2.n16 Tryd.prog renCl := {
  mixed := by kernel_rfl
  f16 := Tryd.func99.trans (congrArg some (by kernel_rfl))
  t4 := Tryd.underlying4
  a4 := Tryd.isAgg4
  z4 := Tryd.sizeOf4
  v4 := Tryd.zeroValue4
  t9 := Tryd.underlying9
  a9 := Tryd.isAgg9
  z9 := Tryd.sizeOf9
  v9 := Tryd.zeroValue9
  t24 := Tryd.underlying61
  a24 := Tryd.isAgg61
  z24 := Tryd.sizeOf61
  v24 := Tryd.zeroValue61
  i9 := by kernel_rfl }
theorem cloneS_any (b off n c : Nat) (zs : List ByteArray) (w : World) (hz : n ≤ zs.length) (hbig : n * 16 ≤ 140737488355328) (hc : ∀ j, j < zs.length → w.cell? ⟨b, off + j, none⟩ = some (.string (zs.getD j ByteArray.empty))) :
    Calls Tryd.prog 99 #[.slice (some ⟨b, off, none⟩) n c] w fun e w' => ∃ v', e = .returned v' ∧ w'.ownsRow w.heap.size 9 1 v' n ((zs.take n).map (Value.string)) ∧ v' ≠ .slice none 0 0 ∧ Below w.heap.size w w' := Any.slices_Clone_string laysCl b off n c zs w hz hbig hc
end Go.Proofs.YtmnfijgmfedpmaaDoor
