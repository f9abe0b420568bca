/- Texts of ours put together: IsC. -/
import Derived.Test.YtibjmokhkjklkaaDoorG13
import Derived.Test.YtibjmokhkjklkaaDoorG00
namespace Go.Proofs.YtibjmokhkjklkaaDoor
open Go.ChangeShapes Go.WideShapes Go.ChangeAt Go.RowKit
set_option maxHeartbeats 1000000 in
theorem isCross_any (c : Crs) (w : World) : Calls Tryd.prog 46 #[.agg #[.string c.partner, .string c.theirs, .string c.own]] w fun e w' => e = .returned (.bool (crsB c)) ∧ Below w.heap.size w w' := by
  obtain ⟨partner, theirs, own⟩ := c
  unfold crsB
  dsimp only
  have HB : Hid (Below w.heap.size w (w.alloc (.cells #[.string partner, .string theirs, .string own] 68))) := (Below.refl _ _).alloc (Nat.le_refl _) _
  go_enter Tryd.func46, Tryd.ntmps46
  go_wp2_with fail
  refine (isName_any partner _).mono ?_
  rintro e w2 ⟨rfl, rfl⟩
  cases h1 : nameB partner
  · go_wp2
    go_ret
    exact ⟨by rw [h1]; rfl, HB.out⟩
  go_wp2_with fail
  refine (isName_any theirs _).mono ?_
  rintro e w2 ⟨rfl, rfl⟩
  cases h2 : nameB theirs
  · go_wp2
    go_ret
    exact ⟨by rw [h1, h2]; rfl, HB.out⟩
  go_wp2_with fail
  refine (isName_any own _).mono ?_
  rintro e w2 ⟨rfl, rfl⟩
  cases h3 : nameB own
  · go_wp2
    go_ret
    exact ⟨by rw [h1, h2, h3]; rfl, HB.out⟩
  · go_wp2
    go_ret
    exact ⟨by rw [h1, h2, h3]; rfl, HB.out⟩
end Go.Proofs.YtibjmokhkjklkaaDoor
