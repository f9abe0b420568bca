/- KindName: impl's and the model's tell the name of a kind from 1 to 7, else the empty text, at every number, in any world whose tables' variable holds what the program's text lays. -/
import Derived.Test.YtphgheojfnlgjaaDoorIsKind
import Derived.Test.YtphgheojfnlgjaaDoorRet
import Derived.ShutString
import Derived.ChangeOld
import Derived.WalkLawsBesides
import Derived.WalkSpells
import Derived.Deep.Light
import Derived.Handy
namespace Go.Proofs.YtphgheojfnlgjaaDoor
open Go.ChangeShapes Go.WideShapes Go.ChangeAt Go.RowKit
def kindNm (n : Int) : ByteArray := if 1 ≤ n ∧ n ≤ 7 then bs (nameK n.toNat) else bs []
set_option maxHeartbeats 400000 in
theorem kindName_impl (n : Int) (w : World) (hT : TablesAt w) : Calls Tryd.prog 8 #[.int .i64 n] w fun e w' => e = .returned (.string (kindNm n)) ∧ w' = w := by
  by_cases hk : 1 ≤ n ∧ n ≤ 7
  · have hB : kindB n = true := by simp [kindB, hk]
    obtain ⟨c0, _⟩ := hT n.toNat (by omega) (by omega)
    have e : kindNm n = bs (nameK n.toNat) := by simp [kindNm, hk]
    rw [e]
    obtain ⟨k, rfl⟩ : ∃ k : Nat, n = k := ⟨n.toNat, by omega⟩
    simp only [Int.toNat_natCast] at c0 ⊢
    have hk7 : k ≤ 7 := by omega
    have hk1 : 1 ≤ k := by omega
    clear hT
    go_enter Tryd.func8, Tryd.ntmps8
    go_wp2_with (go_at_call 17; refine (isKind_any _ _).mono ?_; rintro e w1 ⟨rfl, rfl⟩; rw [hB]; try dsimp only)
    go_ret
    exact ⟨rfl, rfl⟩
  · have hB : kindB n = false := by simp [kindB]; omega
    have e : kindNm n = bs [] := by simp [kindNm, hk]
    rw [e]
    go_enter Tryd.func8, Tryd.ntmps8
    go_wp2_with (go_at_call 17; refine (isKind_any _ _).mono ?_; rintro e w1 ⟨rfl, rfl⟩; rw [hB]; try dsimp only)
    go_ret
    exact ⟨rfl, rfl⟩
end Go.Proofs.YtphgheojfnlgjaaDoor
