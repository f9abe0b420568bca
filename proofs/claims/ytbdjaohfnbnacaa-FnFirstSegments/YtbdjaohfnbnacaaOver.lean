/- Contract of impl's (*scanner).over on the scanner at the head of a reader. -/
import Derived.Test.YtbdjaohfnbnacaaTake
namespace Go.Proofs.Ytbdjaohfnbnacaa
open Go.ChangeShapes Go.WideShapes Go.ChangeAt Go.RowKit Go.Shelf
set_option maxRecDepth 20000 in
set_option maxHeartbeats 4000000 in
theorem over_any (a b c d : Int) (t : ByteArray) (at_ : Nat) (lv : Value) (R : Nat) (w : World) (hR : w.heap[R]? = some (rdObj a b c d t at_ lv)) :
    Calls Try.prog 22 #[.pointer (some ⟨R, 0, none⟩)] w fun e w' => e = .returned (.bool ((at_ : Int) == (t.size : Int))) ∧ Below w.heap.size w w' := by
  have r4 : w.cell? ⟨R, 4, none⟩ = some (.string t) := by simp [World.cell?, hR, rdObj]
  have r5 : w.cell? ⟨R, 5, none⟩ = some (.int .i64 at_) := by simp [World.cell?, hR, rdObj]
  go_enter Try.func22, Try.ntmps22
  go_wp2_with fail
  go_region
  go_wp2
  go_ret
  exact ⟨rfl, (Below.refl _ _).drew⟩
end Go.Proofs.Ytbdjaohfnbnacaa
